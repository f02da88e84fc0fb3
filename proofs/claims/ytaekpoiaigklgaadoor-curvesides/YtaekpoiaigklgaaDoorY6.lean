/- The walk of the law CurveSides, over the program's functions by their contracts. -/
import Derived.Test.YtaekpoiaigklgaaDoorY2
import Derived.Test.YtaekpoiaigklgaaDoorV7
namespace Go.Proofs.YtaekpoiaigklgaaDoor
open Go Go.RowKit
theorem neg_nought : (Pt.zero : Pt E5).neg = Pt.zero := Pt.ext' (by show -(0 : Fin pp) = 0; grind) rfl
def factSiO (n m b : Nat) : Nat → Value → Prop
  | 0, vq => vq = .agg (B32 (bdig n))
  | 1, vq => vq = .agg (B32 (bdig 1))
  | 2, vq => vq = .agg (B32 (bdig m))
  | 3, vq => vq = .agg (B32 (bdig b))
  | 4, vq => ∃ g, vq = .pointer (some ⟨g, 0, none⟩)
  | 5, vq => ∃ g, vq = .pointer (some ⟨g, 0, none⟩)
  | _, _ => True
def valSiO  : Nat → Value
  | 0 => .agg (B32 (bdig 1))
  | 1 => .agg (B32 (bdig 1))
  | 2 => .bool true
  | _ => undef
def factSiT (n m a b : Nat) : Nat → Value → Prop
  | 0, vq => vq = .agg (B32 (bdig n))
  | 1, vq => vq = .agg (B32 (bdig a))
  | 2, vq => vq = .agg (B32 (bdig m))
  | 3, vq => vq = .agg (B32 (bdig b))
  | 4, vq => ∃ g, vq = .pointer (some ⟨g, 0, none⟩)
  | 5, vq => ∃ g, vq = .pointer (some ⟨g, 0, none⟩)
  | _, _ => True
def valSiT (a : Nat) : Nat → Value
  | 0 => .agg (B32 (bdig a))
  | 1 => .agg (B32 (bdig 1))
  | 2 => .bool false
  | _ => undef

set_option maxRecDepth 100000 in
set_option maxHeartbeats 3000000 in
theorem csides_one {T : World → Prop} (F : Crv T) (n m : Nat) (hn : Hid (n < R256)) (hm : Hid (m < R256)) (Ha : Hid (enc (Pt.times n BP) = 1)) (w : World) (hT : T w) : Calls Tryd.prog 7 #[.agg (B32 (bdig n)), .agg (B32 (bdig m))] w fun x w' => x = .returned (.bool true) ∧ Below w.heap.size w w' := by
  have hz := (zero_of_info zeroB32).1
  have haR : Hid (1 < R256) := by show _ < _; decide
  have HA : Hid (Pt.times n BP = Pt.zero) := enc_inj (Ha.out.trans enc_nought.symm)
  have Hx : Hid (enc (Pt.times n BP).neg = 1) := by show _ = _; rw [HA.out, neg_nought]; exact enc_nought
  obtain ⟨q, Hq⟩ : ∃ q, Hid (flip 1 = q) := ⟨_, rfl⟩
  have hqR : Hid (q < R256) := by show _ < _; rw [← Hq.out]; exact flip_lt _
  have Nq : Hid (∀ P : Pt E5, enc P ≠ q) := by show ∀ _, _; rw [← Hq.out]; exact no_side
  have same_1 := B32_same 1 (by decide)
  obtain ⟨b, Hb⟩ : ∃ x, Hid (enc (Pt.times m BP) = x) := ⟨_, rfl⟩
  obtain ⟨s, Hs⟩ : ∃ x, Hid (enc ((Pt.times n BP).add (Pt.times m BP)) = x) := ⟨_, rfl⟩
  obtain ⟨t, Ht⟩ : ∃ x, Hid (enc ((Pt.times n BP).add (Pt.times m BP)).neg = x) := ⟨_, rfl⟩
  obtain ⟨z, Hz⟩ : ∃ x, Hid (enc (Pt.times m BP).neg = x) := ⟨_, rfl⟩
  have same_t := B32_same t (by rw [← Ht.out]; exact enc_R _)
  go_enter Tryd.func7, Tryd.ntmps7
  go_upto_region 1 with fail
  have hK := ((Kp.nil w).alloc (B32 (bdig n)) 22).alloc (B32 (bdig m)) 22
  rw [World.size_alloc] at hK
  generalize (w.alloc (.cells (B32 (bdig n)) 22)).alloc (.cells (B32 (bdig m)) 22) = W at *
  obtain ⟨bN, HbN⟩ : ∃ b, Hid (w.heap.size = b) := ⟨_, rfl⟩
  obtain ⟨bM, HbM⟩ : ∃ b, Hid (bN + 1 = b) := ⟨_, rfl⟩
  have le_bN : Hid (w.heap.size ≤ bN) := by show _ ≤ _; have := HbN.out; omega
  have le_bM : Hid (w.heap.size ≤ bM) := by show _ ≤ _; have := HbN.out; have := HbM.out; omega
  have ne_bN_bM : Hid (bN ≠ bM) := by show _ ≠ _; have := HbM.out; omega
  rw [HbN.out, HbM.out] at hK ⊢
  obtain ⟨Af1, Af1_0, Af1_1⟩ : ∃ qf : Nat → Array Value, Hid (qf 0 = B32 (bdig 1)) ∧ Hid (qf 1 = B32 (bdig b)) := ⟨fun qi => ([B32 (bdig 1), B32 (bdig b)] : List (Array Value)).getD qi #[], by show _ = _; simp, by show _ = _; simp⟩
  refine wp_region_told 117 (by kernel_rfl) (by kernel_rfl) (by rfl) (factSiO n m b) (fun L vs => MkN 2 [(bM, B32 (bdig m), 22), (bN, B32 (bdig n), 22)] w (fun _ => B32 fun _ => 0) (Af1) (fun _ => 22) (fun i => L (4 + i)) (fun i => L (6 + i)) (fun i => vs (4 + i))) (fun _ => MkN.drew hK (fun _ _ => rfl)) ?_ ?_
  · intro L vs ac wc i o hF hLi ho hd K hK
    rcases i with _ | _ | _ | _ | _ | _ | _ | _ | i
    · have ho' := ho
      obtain rfl := Option.some.inj ho
      have f2 : ac.tmps.getD 2 undef = .pointer (some ⟨bN, 0, none⟩) := slott hF 0 hLi 2 (by kernel_rfl)
      refine step_do ho' (wanted_free rfl) ?_
      exact wp_load_own 22 (.tmp 2) rfl bN f2 (B32 (bdig n)) _ 22 (hF.j.1.at bN (B32 (bdig n)) 22 (.tail _ (.head _))) Tryd.underlying22 rfl (B32_info _) (hK _ _ (.inr rfl) (hF.j.congr (fun i hi => if_off (by decide) hi) (fun i hi => if_off (by decide) hi) (fun i hi => if_off (by decide) hi)))
    · have ho' := ho
      obtain rfl := Option.some.inj ho
      have f20 : ac.tmps.getD 20 undef = .agg (B32 (bdig n)) := (factt hF hd 0 rfl rfl (by kernel_rfl)).1.trans (factt hF hd 0 rfl rfl (by kernel_rfl)).2
      refine step_do ho' (wanted_free rfl) ?_
      unfold Oper.wp
      go_simp
      refine (F.baseA hn.out Ha.out _ (F.keep _ _ hT hF.j.1.2)).mono ?_
      rintro e w' ⟨rfl, hB⟩
      exact hK _ _ (.inr rfl) ((hF.j.congr (fun i hi => if_off (by decide) hi) (fun i hi => if_off (by decide) hi) (fun i hi => if_off (by decide) hi)).below hB)
    · have ho' := ho
      obtain rfl := Option.some.inj ho
      have f3 : ac.tmps.getD 3 undef = .pointer (some ⟨bM, 0, none⟩) := slott hF 2 hLi 3 (by kernel_rfl)
      refine step_do ho' (wanted_free rfl) ?_
      exact wp_load_own 22 (.tmp 3) rfl bM f3 (B32 (bdig m)) _ 22 (hF.j.1.at bM (B32 (bdig m)) 22 (.head _)) Tryd.underlying22 rfl (B32_info _) (hK _ _ (.inr rfl) (hF.j.congr (fun i hi => if_off (by decide) hi) (fun i hi => if_off (by decide) hi) (fun i hi => if_off (by decide) hi)))
    · have ho' := ho
      obtain rfl := Option.some.inj ho
      have f22 : ac.tmps.getD 22 undef = .agg (B32 (bdig m)) := (factt hF hd 2 rfl rfl (by kernel_rfl)).1.trans (factt hF hd 2 rfl rfl (by kernel_rfl)).2
      refine step_do ho' (wanted_free rfl) ?_
      unfold Oper.wp
      go_simp
      refine (F.baseA hm.out Hb.out _ (F.keep _ _ hT hF.j.1.2)).mono ?_
      rintro e w' ⟨rfl, hB⟩
      exact hK _ _ (.inr rfl) ((hF.j.congr (fun i hi => if_off (by decide) hi) (fun i hi => if_off (by decide) hi) (fun i hi => if_off (by decide) hi)).below hB)
    · have ho' := ho
      obtain rfl := Option.some.inj ho
      refine step_do ho' (wanted_free rfl) ?_
      have hs := notyett hF 4 hLi 6 rfl (by kernel_rfl)
      unfold Oper.wp
      go_simp
      exact hK _ _ (.inr ⟨_, rfl⟩) (hF.j.alloc 0 (fun i _ hne => if_oth (k := 0) rfl hne) (fun i hi => if_off (by decide) hi) (fun i _ hne => if_oth (k := 0) rfl hne) rfl hs)
    · have ho' := ho
      obtain rfl := Option.some.inj ho
      refine step_do ho' (wanted_free rfl) ?_
      have hs := notyett hF 5 hLi 7 rfl (by kernel_rfl)
      unfold Oper.wp
      go_simp
      exact hK _ _ (.inr ⟨_, rfl⟩) (hF.j.alloc 1 (fun i _ hne => if_oth (k := 1) rfl hne) (fun i hi => if_off (by decide) hi) (fun i _ hne => if_oth (k := 1) rfl hne) rfl hs)
    · have ho' := ho
      obtain rfl := Option.some.inj ho
      have f21 : ac.tmps.getD 21 undef = .agg (B32 (bdig 1)) := (factt hF hd 1 rfl rfl (by kernel_rfl)).1.trans (factt hF hd 1 rfl rfl (by kernel_rfl)).2
      refine step_do ho' (wanted_free rfl) ?_
      obtain ⟨fg, gq, hg⟩ := factt hF hd 4 rfl rfl (by kernel_rfl)
      have hm := dep hd 4 (by kernel_rfl)
      have hj := hF.j
      rw [hg] at fg
      have hj2 := hj.at (k := 0) (by decide) hm hg hLi
      refine wp_store_own 22 (.tmp 5) (.tmp 21) rfl gq (B32 (bdig 1)) fg f21 hj2.2.2 (B32_sizes _ _) (B32_info _) (B32_one _) rfl ?_
      exact hK undef _ (.inl rfl) (hj.storeA (k := 0) Af1_0.out (by decide) hm hg hLi (B32_sizes _ _) (fun i hi => if_off (by decide) hi) (fun i _ hne => if_oth (k := 0) rfl hne) (fun i hi => if_off (by decide) hi) rfl)
    · have ho' := ho
      obtain rfl := Option.some.inj ho
      have f23 : ac.tmps.getD 23 undef = .agg (B32 (bdig b)) := (factt hF hd 3 rfl rfl (by kernel_rfl)).1.trans (factt hF hd 3 rfl rfl (by kernel_rfl)).2
      refine step_do ho' (wanted_free rfl) ?_
      obtain ⟨fg, gq, hg⟩ := factt hF hd 5 rfl rfl (by kernel_rfl)
      have hm := dep hd 5 (by kernel_rfl)
      have hj := hF.j
      rw [hg] at fg
      have hj2 := hj.at (k := 1) (by decide) hm hg hLi
      refine wp_store_own 22 (.tmp 6) (.tmp 23) rfl gq (B32 (bdig b)) fg f23 hj2.2.2 (B32_sizes _ _) (B32_info _) (B32_one _) rfl ?_
      exact hK undef _ (.inl rfl) (hj.storeA (k := 1) Af1_1.out (by decide) hm hg hLi (B32_sizes _ _) (fun i hi => if_off (by decide) hi) (fun i _ hne => if_oth (k := 1) rfl hne) (fun i hi => if_off (by decide) hi) rfl)
    · cases ho
  intro L vs V2 hL hJ hf
  obtain ⟨g3, hgg3⟩ := hf 4 _ _ rfl rfl
  obtain ⟨le0, apg3, owng3⟩ := hJ.gotA (k := 0) Af1_0.out (by decide) (hL 4 (by decide)) hgg3 (hL 6 (by decide))
  have le_g3 := show Hid _ from le0
  clear le0
  obtain ⟨g4, hgg4⟩ := hf 5 _ _ rfl rfl
  obtain ⟨le0, apg4, owng4⟩ := hJ.gotA (k := 1) Af1_1.out (by decide) (hL 5 (by decide)) hgg4 (hL 7 (by decide))
  have le_g4 := show Hid _ from le0
  clear le0
  have ne_g3_g4 : Hid (g3 ≠ g4) := hJ.apart (i := 0) (j := 1) (by decide) (by decide) (by decide) (hL 4 (by decide)) (hL 5 (by decide)) hgg3 hgg4
  have hK : Kp [(g4, B32 (bdig b), 22), (g3, B32 (bdig 1), 22), (bM, B32 (bdig m), 22), (bN, B32 (bdig n), 22)] w V2 := ((hJ.1.cons owng3).cons owng4)
  have e0 : vs 0 = _ := hf 0 _ _ rfl rfl
  have e1 : vs 1 = _ := hf 1 _ _ rfl rfl
  have e2 : vs 2 = _ := hf 2 _ _ rfl rfl
  have e3 : vs 3 = _ := hf 3 _ _ rfl rfl
  simp only [putAll, Nat.zero_add, Nat.reduceAdd, e0, e1, e2, e3, hgg3, hgg4, Act.put, List.setIfInBounds_toArray, List.set_cons_succ, List.set_cons_zero]
  clear hJ hf hL e0 e1 e2 e3 hgg3 hgg4 apg3 apg4 owng3 owng4
  go_upto_region 2 with fail
  go_wp2_with (refine wpList_load_own (by rfl) 22 (.tmp 5) (by rfl) g3 (by rfl) (B32 (bdig 1)) _ (hK.at g3 (B32 (bdig 1)) 22 (.tail _ (.head _))) Tryd.underlying22 (by rfl) (B32_info _) ?_)
  refine (F.negA Ha.out rfl Hx.out _ (F.keep _ _ hT hK.2)).mono ?_
  rintro e V5 ⟨rfl, bw⟩
  have hK := hK.below bw
  clear bw
  go_upto_region 3 with (refine wpList_store_new (by rfl) 22 (.tmp 7) (.tmp 27) (by rfl) _ (B32 (bdig 1)) (by rfl) (by rfl) (B32_info _) (B32_sizes _ _) (B32_one _) (by rfl) ?_)
  have lt_g4 := (hK.at g4 (B32 (bdig b)) 22 (.head _)).lt
  have lt_g3 := (hK.at g3 (B32 (bdig 1)) 22 (.tail _ (.head _))).lt
  have lt_bM := (hK.at bM (B32 (bdig m)) 22 (.tail _ (.tail _ (.head _)))).lt
  have lt_bN := (hK.at bN (B32 (bdig n)) 22 (.tail _ (.tail _ (.tail _ (.head _))))).lt
  have le_b6 := show Hid _ from hK.2.size
  have hK := hK.alloc (B32 (bdig 1)) 22
  generalize V5.alloc (.cells (B32 (bdig 1)) 22) = V7 at *
  obtain ⟨b6, Hb6⟩ : ∃ b, Hid (V5.heap.size = b) := ⟨_, rfl⟩
  have ne_g4_b6 : Hid (g4 ≠ b6) := by show _ ≠ _; rw [← Hb6.out]; exact Nat.ne_of_lt lt_g4
  have ne_g3_b6 : Hid (g3 ≠ b6) := by show _ ≠ _; rw [← Hb6.out]; exact Nat.ne_of_lt lt_g3
  have ne_bM_b6 : Hid (bM ≠ b6) := by show _ ≠ _; rw [← Hb6.out]; exact Nat.ne_of_lt lt_bM
  have ne_bN_b6 : Hid (bN ≠ b6) := by show _ ≠ _; rw [← Hb6.out]; exact Nat.ne_of_lt lt_bN
  have le_b6 : Hid (w.heap.size ≤ b6) := by show _ ≤ _; rw [← Hb6.out]; exact le_b6.out
  rw [Hb6.out] at hK ⊢
  clear lt_g4 lt_g3 lt_bM lt_bN
  go_wp2_with (refine wpList_load_own (by rfl) 22 (.tmp 7) (by rfl) b6 (by rfl) (B32 (bdig 1)) _ (hK.at b6 (B32 (bdig 1)) 22 (.head _)) Tryd.underlying22 (by rfl) (B32_info _) ?_)
  refine (F.negA Hx.out (Pt.neg_neg _) Ha.out _ (F.keep _ _ hT hK.2)).mono ?_
  rintro e V8 ⟨rfl, bw⟩
  have hK := hK.below bw
  clear bw
  go_upto_region 4 with (refine wpList_store_new (by rfl) 22 (.tmp 9) (.tmp 32) (by rfl) _ (B32 (bdig 1)) (by rfl) (by rfl) (B32_info _) (B32_sizes _ _) (B32_one _) (by rfl) ?_)
  have lt_b6 := (hK.at b6 (B32 (bdig 1)) 22 (.head _)).lt
  have lt_g4 := (hK.at g4 (B32 (bdig b)) 22 (.tail _ (.head _))).lt
  have lt_g3 := (hK.at g3 (B32 (bdig 1)) 22 (.tail _ (.tail _ (.head _)))).lt
  have lt_bM := (hK.at bM (B32 (bdig m)) 22 (.tail _ (.tail _ (.tail _ (.head _))))).lt
  have lt_bN := (hK.at bN (B32 (bdig n)) 22 (.tail _ (.tail _ (.tail _ (.tail _ (.head _)))))).lt
  have le_b9 := show Hid _ from hK.2.size
  have hK := hK.alloc (B32 (bdig 1)) 22
  generalize V8.alloc (.cells (B32 (bdig 1)) 22) = V10 at *
  obtain ⟨b9, Hb9⟩ : ∃ b, Hid (V8.heap.size = b) := ⟨_, rfl⟩
  have ne_b6_b9 : Hid (b6 ≠ b9) := by show _ ≠ _; rw [← Hb9.out]; exact Nat.ne_of_lt lt_b6
  have ne_g4_b9 : Hid (g4 ≠ b9) := by show _ ≠ _; rw [← Hb9.out]; exact Nat.ne_of_lt lt_g4
  have ne_g3_b9 : Hid (g3 ≠ b9) := by show _ ≠ _; rw [← Hb9.out]; exact Nat.ne_of_lt lt_g3
  have ne_bM_b9 : Hid (bM ≠ b9) := by show _ ≠ _; rw [← Hb9.out]; exact Nat.ne_of_lt lt_bM
  have ne_bN_b9 : Hid (bN ≠ b9) := by show _ ≠ _; rw [← Hb9.out]; exact Nat.ne_of_lt lt_bN
  have le_b9 : Hid (w.heap.size ≤ b9) := by show _ ≤ _; rw [← Hb9.out]; exact le_b9.out
  rw [Hb9.out] at hK ⊢
  clear lt_b6 lt_g4 lt_g3 lt_bM lt_bN
  go_wp2_with (first
    | refine wpList_load_own (by rfl) 22 (.tmp 5) (by rfl) g3 (by rfl) (B32 (bdig 1)) _ (hK.at g3 (B32 (bdig 1)) 22 (.tail _ (.tail _ (.tail _ (.head _))))) Tryd.underlying22 (by rfl) (B32_info _) ?_
    | refine wpList_load_own (by rfl) 22 (.tmp 6) (by rfl) g4 (by rfl) (B32 (bdig b)) _ (hK.at g4 (B32 (bdig b)) 22 (.tail _ (.tail _ (.head _)))) Tryd.underlying22 (by rfl) (B32_info _) ?_)
  refine (F.addA Ha.out Hb.out rfl Hs.out _ (F.keep _ _ hT hK.2)).mono ?_
  rintro e V11 ⟨rfl, bw⟩
  have hK := hK.below bw
  clear bw
  go_upto_region 5 with (refine wpList_store_new (by rfl) 22 (.tmp 11) (.tmp 38) (by rfl) _ (B32 (bdig s)) (by rfl) (by rfl) (B32_info _) (B32_sizes _ _) (B32_one _) (by rfl) ?_)
  have lt_b9 := (hK.at b9 (B32 (bdig 1)) 22 (.head _)).lt
  have lt_b6 := (hK.at b6 (B32 (bdig 1)) 22 (.tail _ (.head _))).lt
  have lt_g4 := (hK.at g4 (B32 (bdig b)) 22 (.tail _ (.tail _ (.head _)))).lt
  have lt_g3 := (hK.at g3 (B32 (bdig 1)) 22 (.tail _ (.tail _ (.tail _ (.head _))))).lt
  have lt_bM := (hK.at bM (B32 (bdig m)) 22 (.tail _ (.tail _ (.tail _ (.tail _ (.head _)))))).lt
  have lt_bN := (hK.at bN (B32 (bdig n)) 22 (.tail _ (.tail _ (.tail _ (.tail _ (.tail _ (.head _))))))).lt
  have le_b12 := show Hid _ from hK.2.size
  have hK := hK.alloc (B32 (bdig s)) 22
  generalize V11.alloc (.cells (B32 (bdig s)) 22) = V13 at *
  obtain ⟨b12, Hb12⟩ : ∃ b, Hid (V11.heap.size = b) := ⟨_, rfl⟩
  have ne_b9_b12 : Hid (b9 ≠ b12) := by show _ ≠ _; rw [← Hb12.out]; exact Nat.ne_of_lt lt_b9
  have ne_b6_b12 : Hid (b6 ≠ b12) := by show _ ≠ _; rw [← Hb12.out]; exact Nat.ne_of_lt lt_b6
  have ne_g4_b12 : Hid (g4 ≠ b12) := by show _ ≠ _; rw [← Hb12.out]; exact Nat.ne_of_lt lt_g4
  have ne_g3_b12 : Hid (g3 ≠ b12) := by show _ ≠ _; rw [← Hb12.out]; exact Nat.ne_of_lt lt_g3
  have ne_bM_b12 : Hid (bM ≠ b12) := by show _ ≠ _; rw [← Hb12.out]; exact Nat.ne_of_lt lt_bM
  have ne_bN_b12 : Hid (bN ≠ b12) := by show _ ≠ _; rw [← Hb12.out]; exact Nat.ne_of_lt lt_bN
  have le_b12 : Hid (w.heap.size ≤ b12) := by show _ ≤ _; rw [← Hb12.out]; exact le_b12.out
  rw [Hb12.out] at hK ⊢
  clear lt_b9 lt_b6 lt_g4 lt_g3 lt_bM lt_bN
  go_wp2_with (refine wpList_load_own (by rfl) 22 (.tmp 11) (by rfl) b12 (by rfl) (B32 (bdig s)) _ (hK.at b12 (B32 (bdig s)) 22 (.head _)) Tryd.underlying22 (by rfl) (B32_info _) ?_)
  refine (F.negA Hs.out rfl Ht.out _ (F.keep _ _ hT hK.2)).mono ?_
  rintro e V14 ⟨rfl, bw⟩
  have hK := hK.below bw
  clear bw
  go_upto_region 6 with (refine wpList_store_new (by rfl) 22 (.tmp 13) (.tmp 43) (by rfl) _ (B32 (bdig t)) (by rfl) (by rfl) (B32_info _) (B32_sizes _ _) (B32_one _) (by rfl) ?_)
  have lt_b12 := (hK.at b12 (B32 (bdig s)) 22 (.head _)).lt
  have lt_b9 := (hK.at b9 (B32 (bdig 1)) 22 (.tail _ (.head _))).lt
  have lt_b6 := (hK.at b6 (B32 (bdig 1)) 22 (.tail _ (.tail _ (.head _)))).lt
  have lt_g4 := (hK.at g4 (B32 (bdig b)) 22 (.tail _ (.tail _ (.tail _ (.head _))))).lt
  have lt_g3 := (hK.at g3 (B32 (bdig 1)) 22 (.tail _ (.tail _ (.tail _ (.tail _ (.head _)))))).lt
  have lt_bM := (hK.at bM (B32 (bdig m)) 22 (.tail _ (.tail _ (.tail _ (.tail _ (.tail _ (.head _))))))).lt
  have lt_bN := (hK.at bN (B32 (bdig n)) 22 (.tail _ (.tail _ (.tail _ (.tail _ (.tail _ (.tail _ (.head _)))))))).lt
  have le_b15 := show Hid _ from hK.2.size
  have hK := hK.alloc (B32 (bdig t)) 22
  generalize V14.alloc (.cells (B32 (bdig t)) 22) = V16 at *
  obtain ⟨b15, Hb15⟩ : ∃ b, Hid (V14.heap.size = b) := ⟨_, rfl⟩
  have ne_b12_b15 : Hid (b12 ≠ b15) := by show _ ≠ _; rw [← Hb15.out]; exact Nat.ne_of_lt lt_b12
  have ne_b9_b15 : Hid (b9 ≠ b15) := by show _ ≠ _; rw [← Hb15.out]; exact Nat.ne_of_lt lt_b9
  have ne_b6_b15 : Hid (b6 ≠ b15) := by show _ ≠ _; rw [← Hb15.out]; exact Nat.ne_of_lt lt_b6
  have ne_g4_b15 : Hid (g4 ≠ b15) := by show _ ≠ _; rw [← Hb15.out]; exact Nat.ne_of_lt lt_g4
  have ne_g3_b15 : Hid (g3 ≠ b15) := by show _ ≠ _; rw [← Hb15.out]; exact Nat.ne_of_lt lt_g3
  have ne_bM_b15 : Hid (bM ≠ b15) := by show _ ≠ _; rw [← Hb15.out]; exact Nat.ne_of_lt lt_bM
  have ne_bN_b15 : Hid (bN ≠ b15) := by show _ ≠ _; rw [← Hb15.out]; exact Nat.ne_of_lt lt_bN
  have le_b15 : Hid (w.heap.size ≤ b15) := by show _ ≤ _; rw [← Hb15.out]; exact le_b15.out
  rw [Hb15.out] at hK ⊢
  clear lt_b12 lt_b9 lt_b6 lt_g4 lt_g3 lt_bM lt_bN
  go_wp2_with (refine wpList_load_own (by rfl) 22 (.tmp 6) (by rfl) g4 (by rfl) (B32 (bdig b)) _ (hK.at g4 (B32 (bdig b)) 22 (.tail _ (.tail _ (.tail _ (.tail _ (.head _)))))) Tryd.underlying22 (by rfl) (B32_info _) ?_)
  refine (F.negA Hb.out rfl Hz.out _ (F.keep _ _ hT hK.2)).mono ?_
  rintro e V17 ⟨rfl, bw⟩
  have hK := hK.below bw
  clear bw
  go_upto_region 7 with (refine wpList_store_new (by rfl) 22 (.tmp 15) (.tmp 48) (by rfl) _ (B32 (bdig z)) (by rfl) (by rfl) (B32_info _) (B32_sizes _ _) (B32_one _) (by rfl) ?_)
  have lt_b15 := (hK.at b15 (B32 (bdig t)) 22 (.head _)).lt
  have lt_b12 := (hK.at b12 (B32 (bdig s)) 22 (.tail _ (.head _))).lt
  have lt_b9 := (hK.at b9 (B32 (bdig 1)) 22 (.tail _ (.tail _ (.head _)))).lt
  have lt_b6 := (hK.at b6 (B32 (bdig 1)) 22 (.tail _ (.tail _ (.tail _ (.head _))))).lt
  have lt_g4 := (hK.at g4 (B32 (bdig b)) 22 (.tail _ (.tail _ (.tail _ (.tail _ (.head _)))))).lt
  have lt_g3 := (hK.at g3 (B32 (bdig 1)) 22 (.tail _ (.tail _ (.tail _ (.tail _ (.tail _ (.head _))))))).lt
  have lt_bM := (hK.at bM (B32 (bdig m)) 22 (.tail _ (.tail _ (.tail _ (.tail _ (.tail _ (.tail _ (.head _)))))))).lt
  have lt_bN := (hK.at bN (B32 (bdig n)) 22 (.tail _ (.tail _ (.tail _ (.tail _ (.tail _ (.tail _ (.tail _ (.head _))))))))).lt
  have le_b18 := show Hid _ from hK.2.size
  have hK := hK.alloc (B32 (bdig z)) 22
  generalize V17.alloc (.cells (B32 (bdig z)) 22) = V19 at *
  obtain ⟨b18, Hb18⟩ : ∃ b, Hid (V17.heap.size = b) := ⟨_, rfl⟩
  have ne_b15_b18 : Hid (b15 ≠ b18) := by show _ ≠ _; rw [← Hb18.out]; exact Nat.ne_of_lt lt_b15
  have ne_b12_b18 : Hid (b12 ≠ b18) := by show _ ≠ _; rw [← Hb18.out]; exact Nat.ne_of_lt lt_b12
  have ne_b9_b18 : Hid (b9 ≠ b18) := by show _ ≠ _; rw [← Hb18.out]; exact Nat.ne_of_lt lt_b9
  have ne_b6_b18 : Hid (b6 ≠ b18) := by show _ ≠ _; rw [← Hb18.out]; exact Nat.ne_of_lt lt_b6
  have ne_g4_b18 : Hid (g4 ≠ b18) := by show _ ≠ _; rw [← Hb18.out]; exact Nat.ne_of_lt lt_g4
  have ne_g3_b18 : Hid (g3 ≠ b18) := by show _ ≠ _; rw [← Hb18.out]; exact Nat.ne_of_lt lt_g3
  have ne_bM_b18 : Hid (bM ≠ b18) := by show _ ≠ _; rw [← Hb18.out]; exact Nat.ne_of_lt lt_bM
  have ne_bN_b18 : Hid (bN ≠ b18) := by show _ ≠ _; rw [← Hb18.out]; exact Nat.ne_of_lt lt_bN
  have le_b18 : Hid (w.heap.size ≤ b18) := by show _ ≤ _; rw [← Hb18.out]; exact le_b18.out
  rw [Hb18.out] at hK ⊢
  clear lt_b15 lt_b12 lt_b9 lt_b6 lt_g4 lt_g3 lt_bM lt_bN
  go_wp2_with (first
    | refine wpList_load_own (by rfl) 22 (.tmp 7) (by rfl) b6 (by rfl) (B32 (bdig 1)) _ (hK.at b6 (B32 (bdig 1)) 22 (.tail _ (.tail _ (.tail _ (.tail _ (.head _)))))) Tryd.underlying22 (by rfl) (B32_info _) ?_
    | refine wpList_load_own (by rfl) 22 (.tmp 15) (by rfl) b18 (by rfl) (B32 (bdig z)) _ (hK.at b18 (B32 (bdig z)) 22 (.head _)) Tryd.underlying22 (by rfl) (B32_info _) ?_)
  refine (F.addA Hx.out Hz.out (Pt.neg_add _ _).symm Ht.out _ (F.keep _ _ hT hK.2)).mono ?_
  rintro e V20 ⟨rfl, bw⟩
  have hK := hK.below bw
  clear bw
  go_upto_region 8 with (refine wpList_store_new (by rfl) 22 (.tmp 17) (.tmp 54) (by rfl) _ (B32 (bdig t)) (by rfl) (by rfl) (B32_info _) (B32_sizes _ _) (B32_one _) (by rfl) ?_)
  have lt_b18 := (hK.at b18 (B32 (bdig z)) 22 (.head _)).lt
  have lt_b15 := (hK.at b15 (B32 (bdig t)) 22 (.tail _ (.head _))).lt
  have lt_b12 := (hK.at b12 (B32 (bdig s)) 22 (.tail _ (.tail _ (.head _)))).lt
  have lt_b9 := (hK.at b9 (B32 (bdig 1)) 22 (.tail _ (.tail _ (.tail _ (.head _))))).lt
  have lt_b6 := (hK.at b6 (B32 (bdig 1)) 22 (.tail _ (.tail _ (.tail _ (.tail _ (.head _)))))).lt
  have lt_g4 := (hK.at g4 (B32 (bdig b)) 22 (.tail _ (.tail _ (.tail _ (.tail _ (.tail _ (.head _))))))).lt
  have lt_g3 := (hK.at g3 (B32 (bdig 1)) 22 (.tail _ (.tail _ (.tail _ (.tail _ (.tail _ (.tail _ (.head _)))))))).lt
  have lt_bM := (hK.at bM (B32 (bdig m)) 22 (.tail _ (.tail _ (.tail _ (.tail _ (.tail _ (.tail _ (.tail _ (.head _))))))))).lt
  have lt_bN := (hK.at bN (B32 (bdig n)) 22 (.tail _ (.tail _ (.tail _ (.tail _ (.tail _ (.tail _ (.tail _ (.tail _ (.head _)))))))))).lt
  have le_b21 := show Hid _ from hK.2.size
  have hK := hK.alloc (B32 (bdig t)) 22
  generalize V20.alloc (.cells (B32 (bdig t)) 22) = V22 at *
  obtain ⟨b21, Hb21⟩ : ∃ b, Hid (V20.heap.size = b) := ⟨_, rfl⟩
  have ne_b18_b21 : Hid (b18 ≠ b21) := by show _ ≠ _; rw [← Hb21.out]; exact Nat.ne_of_lt lt_b18
  have ne_b15_b21 : Hid (b15 ≠ b21) := by show _ ≠ _; rw [← Hb21.out]; exact Nat.ne_of_lt lt_b15
  have ne_b12_b21 : Hid (b12 ≠ b21) := by show _ ≠ _; rw [← Hb21.out]; exact Nat.ne_of_lt lt_b12
  have ne_b9_b21 : Hid (b9 ≠ b21) := by show _ ≠ _; rw [← Hb21.out]; exact Nat.ne_of_lt lt_b9
  have ne_b6_b21 : Hid (b6 ≠ b21) := by show _ ≠ _; rw [← Hb21.out]; exact Nat.ne_of_lt lt_b6
  have ne_g4_b21 : Hid (g4 ≠ b21) := by show _ ≠ _; rw [← Hb21.out]; exact Nat.ne_of_lt lt_g4
  have ne_g3_b21 : Hid (g3 ≠ b21) := by show _ ≠ _; rw [← Hb21.out]; exact Nat.ne_of_lt lt_g3
  have ne_bM_b21 : Hid (bM ≠ b21) := by show _ ≠ _; rw [← Hb21.out]; exact Nat.ne_of_lt lt_bM
  have ne_bN_b21 : Hid (bN ≠ b21) := by show _ ≠ _; rw [← Hb21.out]; exact Nat.ne_of_lt lt_bN
  have le_b21 : Hid (w.heap.size ≤ b21) := by show _ ≤ _; rw [← Hb21.out]; exact le_b21.out
  rw [Hb21.out] at hK ⊢
  clear lt_b18 lt_b15 lt_b12 lt_b9 lt_b6 lt_g4 lt_g3 lt_bM lt_bN
  go_upto_region 10 with (first
    | refine wpList_load_gd (by rfl) 22 (.tmp 9) (by rfl) b9 (by rfl) (B32 (bdig 1)) _ (hK.at b9 (B32 (bdig 1)) 22 (.tail _ (.tail _ (.tail _ (.tail _ (.head _)))))) Tryd.underlying22 (by rfl) (B32_info _) ?_
    | refine wpList_load_gd (by rfl) 22 (.tmp 5) (by rfl) g3 (by rfl) (B32 (bdig 1)) _ (hK.at g3 (B32 (bdig 1)) 22 (.tail _ (.tail _ (.tail _ (.tail _ (.tail _ (.tail _ (.tail _ (.head _))))))))) Tryd.underlying22 (by rfl) (B32_info _) ?_
    | refine wpList_load_gd (by rfl) 22 (.tmp 13) (by rfl) b15 (by rfl) (B32 (bdig t)) _ (hK.at b15 (B32 (bdig t)) 22 (.tail _ (.tail _ (.head _)))) Tryd.underlying22 (by rfl) (B32_info _) ?_
    | refine wpList_load_gd (by rfl) 22 (.tmp 17) (by rfl) b21 (by rfl) (B32 (bdig t)) _ (hK.at b21 (B32 (bdig t)) 22 (.head _)) Tryd.underlying22 (by rfl) (B32_info _) ?_)
  go_upto_region 11 with (first
    | refine wpList_load_own (by rfl) 22 (.tmp 5) (by rfl) g3 (by rfl) (B32 (bdig 1)) _ (hK.at g3 (B32 (bdig 1)) 22 (.tail _ (.tail _ (.tail _ (.tail _ (.tail _ (.tail _ (.tail _ (.head _))))))))) Tryd.underlying22 (by rfl) (B32_info _) ?_
    | refine wpList_store_new (by rfl) 22 (.tmp 19) (.tmp 88) (by rfl) _ (B32 (bdig 1)) (by rfl) (by rfl) (B32_info _) (B32_sizes _ _) (B32_one _) (by rfl) ?_)
  have lt_b21 := (hK.at b21 (B32 (bdig t)) 22 (.head _)).lt
  have lt_b18 := (hK.at b18 (B32 (bdig z)) 22 (.tail _ (.head _))).lt
  have lt_b15 := (hK.at b15 (B32 (bdig t)) 22 (.tail _ (.tail _ (.head _)))).lt
  have lt_b12 := (hK.at b12 (B32 (bdig s)) 22 (.tail _ (.tail _ (.tail _ (.head _))))).lt
  have lt_b9 := (hK.at b9 (B32 (bdig 1)) 22 (.tail _ (.tail _ (.tail _ (.tail _ (.head _)))))).lt
  have lt_b6 := (hK.at b6 (B32 (bdig 1)) 22 (.tail _ (.tail _ (.tail _ (.tail _ (.tail _ (.head _))))))).lt
  have lt_g4 := (hK.at g4 (B32 (bdig b)) 22 (.tail _ (.tail _ (.tail _ (.tail _ (.tail _ (.tail _ (.head _)))))))).lt
  have lt_g3 := (hK.at g3 (B32 (bdig 1)) 22 (.tail _ (.tail _ (.tail _ (.tail _ (.tail _ (.tail _ (.tail _ (.head _))))))))).lt
  have lt_bM := (hK.at bM (B32 (bdig m)) 22 (.tail _ (.tail _ (.tail _ (.tail _ (.tail _ (.tail _ (.tail _ (.tail _ (.head _)))))))))).lt
  have lt_bN := (hK.at bN (B32 (bdig n)) 22 (.tail _ (.tail _ (.tail _ (.tail _ (.tail _ (.tail _ (.tail _ (.tail _ (.tail _ (.head _))))))))))).lt
  have le_b23 := show Hid _ from hK.2.size
  have hK := hK.alloc (B32 (bdig 1)) 22
  generalize V22.alloc (.cells (B32 (bdig 1)) 22) = V24 at *
  obtain ⟨b23, Hb23⟩ : ∃ b, Hid (V22.heap.size = b) := ⟨_, rfl⟩
  have ne_b21_b23 : Hid (b21 ≠ b23) := by show _ ≠ _; rw [← Hb23.out]; exact Nat.ne_of_lt lt_b21
  have ne_b18_b23 : Hid (b18 ≠ b23) := by show _ ≠ _; rw [← Hb23.out]; exact Nat.ne_of_lt lt_b18
  have ne_b15_b23 : Hid (b15 ≠ b23) := by show _ ≠ _; rw [← Hb23.out]; exact Nat.ne_of_lt lt_b15
  have ne_b12_b23 : Hid (b12 ≠ b23) := by show _ ≠ _; rw [← Hb23.out]; exact Nat.ne_of_lt lt_b12
  have ne_b9_b23 : Hid (b9 ≠ b23) := by show _ ≠ _; rw [← Hb23.out]; exact Nat.ne_of_lt lt_b9
  have ne_b6_b23 : Hid (b6 ≠ b23) := by show _ ≠ _; rw [← Hb23.out]; exact Nat.ne_of_lt lt_b6
  have ne_g4_b23 : Hid (g4 ≠ b23) := by show _ ≠ _; rw [← Hb23.out]; exact Nat.ne_of_lt lt_g4
  have ne_g3_b23 : Hid (g3 ≠ b23) := by show _ ≠ _; rw [← Hb23.out]; exact Nat.ne_of_lt lt_g3
  have ne_bM_b23 : Hid (bM ≠ b23) := by show _ ≠ _; rw [← Hb23.out]; exact Nat.ne_of_lt lt_bM
  have ne_bN_b23 : Hid (bN ≠ b23) := by show _ ≠ _; rw [← Hb23.out]; exact Nat.ne_of_lt lt_bN
  have le_b23 : Hid (w.heap.size ≤ b23) := by show _ ≤ _; rw [← Hb23.out]; exact le_b23.out
  rw [Hb23.out] at hK ⊢
  clear lt_b21 lt_b18 lt_b15 lt_b12 lt_b9 lt_b6 lt_g4 lt_g3 lt_bM lt_bN
  have cW := (hK.at b23 (B32 (bdig 1)) 22 (.head _)).cell (B32_at (bdig 1) 31 (by decide))
  have fW := (hK.at b23 (B32 (bdig 1)) 22 (.head _)).frozen 31
  have hxor := flip_top (a := 1) haR.out
  have hK := Kp.setCell (i := 31) (v := .int .u8 (bdig (flip 1) 31 : Int)) hK (by simp only [List.forall_mem_cons, List.not_mem_nil, false_implies, implies_true, and_true]; exact ⟨ne_b21_b23.out, ne_b18_b23.out, ne_b15_b23.out, ne_b12_b23.out, ne_b9_b23.out, ne_b6_b23.out, ne_g4_b23.out, ne_g3_b23.out, ne_bM_b23.out, ne_bN_b23.out⟩) le_b23.out
  rw [B32_set _ 31 _ (by decide), B32_flip 1] at hK
  generalize bdig 1 31 = d31 at *
  generalize bdig (flip 1) 31 = f31 at *
  go_upto_region 12 with fail
  generalize V24.setCell ⟨b23, 31, none⟩ (.int .u8 (f31 : Int)) = VV at *
  clear cW fW hxor
  rw [Hq.out] at hK
  have hK : Kp [(b23, B32 (bdig q), 22), (b6, B32 (bdig 1), 22), (g3, B32 (bdig 1), 22)] w VV := (((hK.none.cons (hK.at g3 (B32 (bdig 1)) 22 (.tail _ (.tail _ (.tail _ (.tail _ (.tail _ (.tail _ (.tail _ (.tail _ (.head _))))))))))).cons (hK.at b6 (B32 (bdig 1)) 22 (.tail _ (.tail _ (.tail _ (.tail _ (.tail _ (.tail _ (.head _))))))))).cons (hK.at b23 (B32 (bdig q)) 22 (.head _)))
  refine wp_region_vals 117 (by kernel_rfl) (by kernel_rfl) (by rfl) (valSiO ) (fun _ => Kp [(b23, B32 (bdig q), 22), (b6, B32 (bdig 1), 22), (g3, B32 (bdig 1), 22)] w) hK.drew ?_ ?_
  · intro L ac wc i o hF hLi ho hd K hK
    rcases i with _ | _ | _ | i
    · have ho' := ho
      obtain rfl := Option.some.inj ho
      have f5 : ac.tmps.getD 5 undef = .pointer (some ⟨g3, 0, none⟩) := slotv hF 0 hLi 5 (by kernel_rfl)
      refine step_do ho' (wanted_free rfl) ?_
      exact wp_load_own 22 (.tmp 5) rfl g3 f5 (B32 (bdig 1)) _ 22 (hF.j.at g3 (B32 (bdig 1)) 22 (.tail _ (.tail _ (.head _)))) Tryd.underlying22 rfl (B32_info _) (hK _ _ (.inr rfl) hF.j)
    · have ho' := ho
      obtain rfl := Option.some.inj ho
      refine step_do ho' (wanted_free rfl) ?_
      unfold Oper.wp
      go_simp
      refine (numc_any 1 (by decide) _).mono ?_
      rintro e w' ⟨rfl, hB⟩
      exact hK _ _ (.inr rfl) (hF.j.below hB)
    · have ho' := ho
      obtain rfl := Option.some.inj ho
      have f93 : ac.tmps.getD 93 undef = .agg (B32 (bdig 1)) := valv hF hd 0 rfl rfl (by kernel_rfl)
      have f94 : ac.tmps.getD 94 undef = .agg (B32 (bdig 1)) := valv hF hd 1 rfl rfl (by kernel_rfl)
      refine step_do ho' (wanted_free rfl) ?_
      unfold Oper.wp
      go_simp
      exact hK _ _ (.inr rfl) hF.j
    · cases ho
  intro L V25 hL hKq
  have hK : Kp [(b23, B32 (bdig q), 22), (b6, B32 (bdig 1), 22), (g3, B32 (bdig 1), 22)] w V25 := hKq
  clear hKq hL
  simp only [putAll, valSiO, Act.put, List.setIfInBounds_toArray, List.set_cons_succ, List.set_cons_zero]
  go_wp2_with (first
    | refine wpList_load_own (by rfl) 22 (.tmp 7) (by rfl) b6 (by rfl) (B32 (bdig 1)) _ (hK.at b6 (B32 (bdig 1)) 22 (.tail _ (.head _))) Tryd.underlying22 (by rfl) (B32_info _) ?_
    | refine wpList_load_own (by rfl) 22 (.tmp 5) (by rfl) g3 (by rfl) (B32 (bdig 1)) _ (hK.at g3 (B32 (bdig 1)) 22 (.tail _ (.tail _ (.head _)))) Tryd.underlying22 (by rfl) (B32_info _) ?_
    | refine wpList_load_gd (by rfl) 22 (.tmp 19) (by rfl) b23 (by rfl) (B32 (bdig q)) _ (hK.at b23 (B32 (bdig q)) 22 (.head _)) Tryd.underlying22 (by rfl) (B32_info _) ?_)
  refine (F.check_not q hqR.out Nq.out _ (F.keep _ _ hT hK.2)).mono ?_
  rintro e w8 ⟨rfl, b8⟩
  have hK := hK.below b8
  go_wp2_with fail
  refine (cwakes_any F _ (F.keep _ _ hT hK.2)).mono ?_
  rintro e w9 ⟨rfl, b9⟩
  have hK := hK.below b9
  go_wp2
  go_ret
  exact ⟨rfl, hK.2⟩
set_option maxRecDepth 100000 in
set_option maxHeartbeats 3000000 in
theorem csides_two {T : World → Prop} (F : Crv T) (n m : Nat) (a : Nat) (hn : Hid (n < R256)) (hm : Hid (m < R256)) (Ha : Hid (enc (Pt.times n BP) = a)) (h1 : Hid (a ≠ 1)) (w : World) (hT : T w) : Calls Tryd.prog 7 #[.agg (B32 (bdig n)), .agg (B32 (bdig m))] w fun x w' => x = .returned (.bool true) ∧ Below w.heap.size w w' := by
  have hz := (zero_of_info zeroB32).1
  have haR : Hid (a < R256) := by show _ < _; rw [← Ha.out]; exact enc_R _
  obtain ⟨x, Hx⟩ : ∃ x, Hid (enc (Pt.times n BP).neg = x) := ⟨_, rfl⟩
  have Hfl : Hid (flip a = x) := by
    show _ = _
    rw [← Hx.out, ← Ha.out]
    refine (enc_flip fun e => h1.out ?_).symm
    rw [← Ha.out, side_zero (times_L n) e]; exact enc_nought
  have ne1 : ∀ w, (Op.equalIn 10000 22 (.agg (B32 (bdig a))) (.agg (B32 (bdig 1)))).run Tryd.prog w = .ok false w := fun w => (B32_eq a 1 haR.out (by decide) w).trans (by rw [decide_eq_false h1.out])
  have same_x := B32_same x (by rw [← Hx.out]; exact enc_R _)
  have same_a := B32_same a haR.out
  have same_1 := B32_same 1 (by decide)
  obtain ⟨b, Hb⟩ : ∃ x, Hid (enc (Pt.times m BP) = x) := ⟨_, rfl⟩
  obtain ⟨s, Hs⟩ : ∃ x, Hid (enc ((Pt.times n BP).add (Pt.times m BP)) = x) := ⟨_, rfl⟩
  obtain ⟨t, Ht⟩ : ∃ x, Hid (enc ((Pt.times n BP).add (Pt.times m BP)).neg = x) := ⟨_, rfl⟩
  obtain ⟨z, Hz⟩ : ∃ x, Hid (enc (Pt.times m BP).neg = x) := ⟨_, rfl⟩
  have same_t := B32_same t (by rw [← Ht.out]; exact enc_R _)
  go_enter Tryd.func7, Tryd.ntmps7
  go_upto_region 1 with fail
  have hK := ((Kp.nil w).alloc (B32 (bdig n)) 22).alloc (B32 (bdig m)) 22
  rw [World.size_alloc] at hK
  generalize (w.alloc (.cells (B32 (bdig n)) 22)).alloc (.cells (B32 (bdig m)) 22) = W at *
  obtain ⟨bN, HbN⟩ : ∃ b, Hid (w.heap.size = b) := ⟨_, rfl⟩
  obtain ⟨bM, HbM⟩ : ∃ b, Hid (bN + 1 = b) := ⟨_, rfl⟩
  have le_bN : Hid (w.heap.size ≤ bN) := by show _ ≤ _; have := HbN.out; omega
  have le_bM : Hid (w.heap.size ≤ bM) := by show _ ≤ _; have := HbN.out; have := HbM.out; omega
  have ne_bN_bM : Hid (bN ≠ bM) := by show _ ≠ _; have := HbM.out; omega
  rw [HbN.out, HbM.out] at hK ⊢
  obtain ⟨Af1, Af1_0, Af1_1⟩ : ∃ qf : Nat → Array Value, Hid (qf 0 = B32 (bdig a)) ∧ Hid (qf 1 = B32 (bdig b)) := ⟨fun qi => ([B32 (bdig a), B32 (bdig b)] : List (Array Value)).getD qi #[], by show _ = _; simp, by show _ = _; simp⟩
  refine wp_region_told 117 (by kernel_rfl) (by kernel_rfl) (by rfl) (factSiT n m a b) (fun L vs => MkN 2 [(bM, B32 (bdig m), 22), (bN, B32 (bdig n), 22)] w (fun _ => B32 fun _ => 0) (Af1) (fun _ => 22) (fun i => L (4 + i)) (fun i => L (6 + i)) (fun i => vs (4 + i))) (fun _ => MkN.drew hK (fun _ _ => rfl)) ?_ ?_
  · intro L vs ac wc i o hF hLi ho hd K hK
    rcases i with _ | _ | _ | _ | _ | _ | _ | _ | i
    · have ho' := ho
      obtain rfl := Option.some.inj ho
      have f2 : ac.tmps.getD 2 undef = .pointer (some ⟨bN, 0, none⟩) := slott hF 0 hLi 2 (by kernel_rfl)
      refine step_do ho' (wanted_free rfl) ?_
      exact wp_load_own 22 (.tmp 2) rfl bN f2 (B32 (bdig n)) _ 22 (hF.j.1.at bN (B32 (bdig n)) 22 (.tail _ (.head _))) Tryd.underlying22 rfl (B32_info _) (hK _ _ (.inr rfl) (hF.j.congr (fun i hi => if_off (by decide) hi) (fun i hi => if_off (by decide) hi) (fun i hi => if_off (by decide) hi)))
    · have ho' := ho
      obtain rfl := Option.some.inj ho
      have f20 : ac.tmps.getD 20 undef = .agg (B32 (bdig n)) := (factt hF hd 0 rfl rfl (by kernel_rfl)).1.trans (factt hF hd 0 rfl rfl (by kernel_rfl)).2
      refine step_do ho' (wanted_free rfl) ?_
      unfold Oper.wp
      go_simp
      refine (F.baseA hn.out Ha.out _ (F.keep _ _ hT hF.j.1.2)).mono ?_
      rintro e w' ⟨rfl, hB⟩
      exact hK _ _ (.inr rfl) ((hF.j.congr (fun i hi => if_off (by decide) hi) (fun i hi => if_off (by decide) hi) (fun i hi => if_off (by decide) hi)).below hB)
    · have ho' := ho
      obtain rfl := Option.some.inj ho
      have f3 : ac.tmps.getD 3 undef = .pointer (some ⟨bM, 0, none⟩) := slott hF 2 hLi 3 (by kernel_rfl)
      refine step_do ho' (wanted_free rfl) ?_
      exact wp_load_own 22 (.tmp 3) rfl bM f3 (B32 (bdig m)) _ 22 (hF.j.1.at bM (B32 (bdig m)) 22 (.head _)) Tryd.underlying22 rfl (B32_info _) (hK _ _ (.inr rfl) (hF.j.congr (fun i hi => if_off (by decide) hi) (fun i hi => if_off (by decide) hi) (fun i hi => if_off (by decide) hi)))
    · have ho' := ho
      obtain rfl := Option.some.inj ho
      have f22 : ac.tmps.getD 22 undef = .agg (B32 (bdig m)) := (factt hF hd 2 rfl rfl (by kernel_rfl)).1.trans (factt hF hd 2 rfl rfl (by kernel_rfl)).2
      refine step_do ho' (wanted_free rfl) ?_
      unfold Oper.wp
      go_simp
      refine (F.baseA hm.out Hb.out _ (F.keep _ _ hT hF.j.1.2)).mono ?_
      rintro e w' ⟨rfl, hB⟩
      exact hK _ _ (.inr rfl) ((hF.j.congr (fun i hi => if_off (by decide) hi) (fun i hi => if_off (by decide) hi) (fun i hi => if_off (by decide) hi)).below hB)
    · have ho' := ho
      obtain rfl := Option.some.inj ho
      refine step_do ho' (wanted_free rfl) ?_
      have hs := notyett hF 4 hLi 6 rfl (by kernel_rfl)
      unfold Oper.wp
      go_simp
      exact hK _ _ (.inr ⟨_, rfl⟩) (hF.j.alloc 0 (fun i _ hne => if_oth (k := 0) rfl hne) (fun i hi => if_off (by decide) hi) (fun i _ hne => if_oth (k := 0) rfl hne) rfl hs)
    · have ho' := ho
      obtain rfl := Option.some.inj ho
      refine step_do ho' (wanted_free rfl) ?_
      have hs := notyett hF 5 hLi 7 rfl (by kernel_rfl)
      unfold Oper.wp
      go_simp
      exact hK _ _ (.inr ⟨_, rfl⟩) (hF.j.alloc 1 (fun i _ hne => if_oth (k := 1) rfl hne) (fun i hi => if_off (by decide) hi) (fun i _ hne => if_oth (k := 1) rfl hne) rfl hs)
    · have ho' := ho
      obtain rfl := Option.some.inj ho
      have f21 : ac.tmps.getD 21 undef = .agg (B32 (bdig a)) := (factt hF hd 1 rfl rfl (by kernel_rfl)).1.trans (factt hF hd 1 rfl rfl (by kernel_rfl)).2
      refine step_do ho' (wanted_free rfl) ?_
      obtain ⟨fg, gq, hg⟩ := factt hF hd 4 rfl rfl (by kernel_rfl)
      have hm := dep hd 4 (by kernel_rfl)
      have hj := hF.j
      rw [hg] at fg
      have hj2 := hj.at (k := 0) (by decide) hm hg hLi
      refine wp_store_own 22 (.tmp 5) (.tmp 21) rfl gq (B32 (bdig a)) fg f21 hj2.2.2 (B32_sizes _ _) (B32_info _) (B32_one _) rfl ?_
      exact hK undef _ (.inl rfl) (hj.storeA (k := 0) Af1_0.out (by decide) hm hg hLi (B32_sizes _ _) (fun i hi => if_off (by decide) hi) (fun i _ hne => if_oth (k := 0) rfl hne) (fun i hi => if_off (by decide) hi) rfl)
    · have ho' := ho
      obtain rfl := Option.some.inj ho
      have f23 : ac.tmps.getD 23 undef = .agg (B32 (bdig b)) := (factt hF hd 3 rfl rfl (by kernel_rfl)).1.trans (factt hF hd 3 rfl rfl (by kernel_rfl)).2
      refine step_do ho' (wanted_free rfl) ?_
      obtain ⟨fg, gq, hg⟩ := factt hF hd 5 rfl rfl (by kernel_rfl)
      have hm := dep hd 5 (by kernel_rfl)
      have hj := hF.j
      rw [hg] at fg
      have hj2 := hj.at (k := 1) (by decide) hm hg hLi
      refine wp_store_own 22 (.tmp 6) (.tmp 23) rfl gq (B32 (bdig b)) fg f23 hj2.2.2 (B32_sizes _ _) (B32_info _) (B32_one _) rfl ?_
      exact hK undef _ (.inl rfl) (hj.storeA (k := 1) Af1_1.out (by decide) hm hg hLi (B32_sizes _ _) (fun i hi => if_off (by decide) hi) (fun i _ hne => if_oth (k := 1) rfl hne) (fun i hi => if_off (by decide) hi) rfl)
    · cases ho
  intro L vs V2 hL hJ hf
  obtain ⟨g3, hgg3⟩ := hf 4 _ _ rfl rfl
  obtain ⟨le0, apg3, owng3⟩ := hJ.gotA (k := 0) Af1_0.out (by decide) (hL 4 (by decide)) hgg3 (hL 6 (by decide))
  have le_g3 := show Hid _ from le0
  clear le0
  obtain ⟨g4, hgg4⟩ := hf 5 _ _ rfl rfl
  obtain ⟨le0, apg4, owng4⟩ := hJ.gotA (k := 1) Af1_1.out (by decide) (hL 5 (by decide)) hgg4 (hL 7 (by decide))
  have le_g4 := show Hid _ from le0
  clear le0
  have ne_g3_g4 : Hid (g3 ≠ g4) := hJ.apart (i := 0) (j := 1) (by decide) (by decide) (by decide) (hL 4 (by decide)) (hL 5 (by decide)) hgg3 hgg4
  have hK : Kp [(g4, B32 (bdig b), 22), (g3, B32 (bdig a), 22), (bM, B32 (bdig m), 22), (bN, B32 (bdig n), 22)] w V2 := ((hJ.1.cons owng3).cons owng4)
  have e0 : vs 0 = _ := hf 0 _ _ rfl rfl
  have e1 : vs 1 = _ := hf 1 _ _ rfl rfl
  have e2 : vs 2 = _ := hf 2 _ _ rfl rfl
  have e3 : vs 3 = _ := hf 3 _ _ rfl rfl
  simp only [putAll, Nat.zero_add, Nat.reduceAdd, e0, e1, e2, e3, hgg3, hgg4, Act.put, List.setIfInBounds_toArray, List.set_cons_succ, List.set_cons_zero]
  clear hJ hf hL e0 e1 e2 e3 hgg3 hgg4 apg3 apg4 owng3 owng4
  go_upto_region 2 with fail
  go_wp2_with (refine wpList_load_own (by rfl) 22 (.tmp 5) (by rfl) g3 (by rfl) (B32 (bdig a)) _ (hK.at g3 (B32 (bdig a)) 22 (.tail _ (.head _))) Tryd.underlying22 (by rfl) (B32_info _) ?_)
  refine (F.negA Ha.out rfl Hx.out _ (F.keep _ _ hT hK.2)).mono ?_
  rintro e V5 ⟨rfl, bw⟩
  have hK := hK.below bw
  clear bw
  go_upto_region 3 with (refine wpList_store_new (by rfl) 22 (.tmp 7) (.tmp 27) (by rfl) _ (B32 (bdig x)) (by rfl) (by rfl) (B32_info _) (B32_sizes _ _) (B32_one _) (by rfl) ?_)
  have lt_g4 := (hK.at g4 (B32 (bdig b)) 22 (.head _)).lt
  have lt_g3 := (hK.at g3 (B32 (bdig a)) 22 (.tail _ (.head _))).lt
  have lt_bM := (hK.at bM (B32 (bdig m)) 22 (.tail _ (.tail _ (.head _)))).lt
  have lt_bN := (hK.at bN (B32 (bdig n)) 22 (.tail _ (.tail _ (.tail _ (.head _))))).lt
  have le_b6 := show Hid _ from hK.2.size
  have hK := hK.alloc (B32 (bdig x)) 22
  generalize V5.alloc (.cells (B32 (bdig x)) 22) = V7 at *
  obtain ⟨b6, Hb6⟩ : ∃ b, Hid (V5.heap.size = b) := ⟨_, rfl⟩
  have ne_g4_b6 : Hid (g4 ≠ b6) := by show _ ≠ _; rw [← Hb6.out]; exact Nat.ne_of_lt lt_g4
  have ne_g3_b6 : Hid (g3 ≠ b6) := by show _ ≠ _; rw [← Hb6.out]; exact Nat.ne_of_lt lt_g3
  have ne_bM_b6 : Hid (bM ≠ b6) := by show _ ≠ _; rw [← Hb6.out]; exact Nat.ne_of_lt lt_bM
  have ne_bN_b6 : Hid (bN ≠ b6) := by show _ ≠ _; rw [← Hb6.out]; exact Nat.ne_of_lt lt_bN
  have le_b6 : Hid (w.heap.size ≤ b6) := by show _ ≤ _; rw [← Hb6.out]; exact le_b6.out
  rw [Hb6.out] at hK ⊢
  clear lt_g4 lt_g3 lt_bM lt_bN
  go_wp2_with (refine wpList_load_own (by rfl) 22 (.tmp 7) (by rfl) b6 (by rfl) (B32 (bdig x)) _ (hK.at b6 (B32 (bdig x)) 22 (.head _)) Tryd.underlying22 (by rfl) (B32_info _) ?_)
  refine (F.negA Hx.out (Pt.neg_neg _) Ha.out _ (F.keep _ _ hT hK.2)).mono ?_
  rintro e V8 ⟨rfl, bw⟩
  have hK := hK.below bw
  clear bw
  go_upto_region 4 with (refine wpList_store_new (by rfl) 22 (.tmp 9) (.tmp 32) (by rfl) _ (B32 (bdig a)) (by rfl) (by rfl) (B32_info _) (B32_sizes _ _) (B32_one _) (by rfl) ?_)
  have lt_b6 := (hK.at b6 (B32 (bdig x)) 22 (.head _)).lt
  have lt_g4 := (hK.at g4 (B32 (bdig b)) 22 (.tail _ (.head _))).lt
  have lt_g3 := (hK.at g3 (B32 (bdig a)) 22 (.tail _ (.tail _ (.head _)))).lt
  have lt_bM := (hK.at bM (B32 (bdig m)) 22 (.tail _ (.tail _ (.tail _ (.head _))))).lt
  have lt_bN := (hK.at bN (B32 (bdig n)) 22 (.tail _ (.tail _ (.tail _ (.tail _ (.head _)))))).lt
  have le_b9 := show Hid _ from hK.2.size
  have hK := hK.alloc (B32 (bdig a)) 22
  generalize V8.alloc (.cells (B32 (bdig a)) 22) = V10 at *
  obtain ⟨b9, Hb9⟩ : ∃ b, Hid (V8.heap.size = b) := ⟨_, rfl⟩
  have ne_b6_b9 : Hid (b6 ≠ b9) := by show _ ≠ _; rw [← Hb9.out]; exact Nat.ne_of_lt lt_b6
  have ne_g4_b9 : Hid (g4 ≠ b9) := by show _ ≠ _; rw [← Hb9.out]; exact Nat.ne_of_lt lt_g4
  have ne_g3_b9 : Hid (g3 ≠ b9) := by show _ ≠ _; rw [← Hb9.out]; exact Nat.ne_of_lt lt_g3
  have ne_bM_b9 : Hid (bM ≠ b9) := by show _ ≠ _; rw [← Hb9.out]; exact Nat.ne_of_lt lt_bM
  have ne_bN_b9 : Hid (bN ≠ b9) := by show _ ≠ _; rw [← Hb9.out]; exact Nat.ne_of_lt lt_bN
  have le_b9 : Hid (w.heap.size ≤ b9) := by show _ ≤ _; rw [← Hb9.out]; exact le_b9.out
  rw [Hb9.out] at hK ⊢
  clear lt_b6 lt_g4 lt_g3 lt_bM lt_bN
  go_wp2_with (first
    | refine wpList_load_own (by rfl) 22 (.tmp 5) (by rfl) g3 (by rfl) (B32 (bdig a)) _ (hK.at g3 (B32 (bdig a)) 22 (.tail _ (.tail _ (.tail _ (.head _))))) Tryd.underlying22 (by rfl) (B32_info _) ?_
    | refine wpList_load_own (by rfl) 22 (.tmp 6) (by rfl) g4 (by rfl) (B32 (bdig b)) _ (hK.at g4 (B32 (bdig b)) 22 (.tail _ (.tail _ (.head _)))) Tryd.underlying22 (by rfl) (B32_info _) ?_)
  refine (F.addA Ha.out Hb.out rfl Hs.out _ (F.keep _ _ hT hK.2)).mono ?_
  rintro e V11 ⟨rfl, bw⟩
  have hK := hK.below bw
  clear bw
  go_upto_region 5 with (refine wpList_store_new (by rfl) 22 (.tmp 11) (.tmp 38) (by rfl) _ (B32 (bdig s)) (by rfl) (by rfl) (B32_info _) (B32_sizes _ _) (B32_one _) (by rfl) ?_)
  have lt_b9 := (hK.at b9 (B32 (bdig a)) 22 (.head _)).lt
  have lt_b6 := (hK.at b6 (B32 (bdig x)) 22 (.tail _ (.head _))).lt
  have lt_g4 := (hK.at g4 (B32 (bdig b)) 22 (.tail _ (.tail _ (.head _)))).lt
  have lt_g3 := (hK.at g3 (B32 (bdig a)) 22 (.tail _ (.tail _ (.tail _ (.head _))))).lt
  have lt_bM := (hK.at bM (B32 (bdig m)) 22 (.tail _ (.tail _ (.tail _ (.tail _ (.head _)))))).lt
  have lt_bN := (hK.at bN (B32 (bdig n)) 22 (.tail _ (.tail _ (.tail _ (.tail _ (.tail _ (.head _))))))).lt
  have le_b12 := show Hid _ from hK.2.size
  have hK := hK.alloc (B32 (bdig s)) 22
  generalize V11.alloc (.cells (B32 (bdig s)) 22) = V13 at *
  obtain ⟨b12, Hb12⟩ : ∃ b, Hid (V11.heap.size = b) := ⟨_, rfl⟩
  have ne_b9_b12 : Hid (b9 ≠ b12) := by show _ ≠ _; rw [← Hb12.out]; exact Nat.ne_of_lt lt_b9
  have ne_b6_b12 : Hid (b6 ≠ b12) := by show _ ≠ _; rw [← Hb12.out]; exact Nat.ne_of_lt lt_b6
  have ne_g4_b12 : Hid (g4 ≠ b12) := by show _ ≠ _; rw [← Hb12.out]; exact Nat.ne_of_lt lt_g4
  have ne_g3_b12 : Hid (g3 ≠ b12) := by show _ ≠ _; rw [← Hb12.out]; exact Nat.ne_of_lt lt_g3
  have ne_bM_b12 : Hid (bM ≠ b12) := by show _ ≠ _; rw [← Hb12.out]; exact Nat.ne_of_lt lt_bM
  have ne_bN_b12 : Hid (bN ≠ b12) := by show _ ≠ _; rw [← Hb12.out]; exact Nat.ne_of_lt lt_bN
  have le_b12 : Hid (w.heap.size ≤ b12) := by show _ ≤ _; rw [← Hb12.out]; exact le_b12.out
  rw [Hb12.out] at hK ⊢
  clear lt_b9 lt_b6 lt_g4 lt_g3 lt_bM lt_bN
  go_wp2_with (refine wpList_load_own (by rfl) 22 (.tmp 11) (by rfl) b12 (by rfl) (B32 (bdig s)) _ (hK.at b12 (B32 (bdig s)) 22 (.head _)) Tryd.underlying22 (by rfl) (B32_info _) ?_)
  refine (F.negA Hs.out rfl Ht.out _ (F.keep _ _ hT hK.2)).mono ?_
  rintro e V14 ⟨rfl, bw⟩
  have hK := hK.below bw
  clear bw
  go_upto_region 6 with (refine wpList_store_new (by rfl) 22 (.tmp 13) (.tmp 43) (by rfl) _ (B32 (bdig t)) (by rfl) (by rfl) (B32_info _) (B32_sizes _ _) (B32_one _) (by rfl) ?_)
  have lt_b12 := (hK.at b12 (B32 (bdig s)) 22 (.head _)).lt
  have lt_b9 := (hK.at b9 (B32 (bdig a)) 22 (.tail _ (.head _))).lt
  have lt_b6 := (hK.at b6 (B32 (bdig x)) 22 (.tail _ (.tail _ (.head _)))).lt
  have lt_g4 := (hK.at g4 (B32 (bdig b)) 22 (.tail _ (.tail _ (.tail _ (.head _))))).lt
  have lt_g3 := (hK.at g3 (B32 (bdig a)) 22 (.tail _ (.tail _ (.tail _ (.tail _ (.head _)))))).lt
  have lt_bM := (hK.at bM (B32 (bdig m)) 22 (.tail _ (.tail _ (.tail _ (.tail _ (.tail _ (.head _))))))).lt
  have lt_bN := (hK.at bN (B32 (bdig n)) 22 (.tail _ (.tail _ (.tail _ (.tail _ (.tail _ (.tail _ (.head _)))))))).lt
  have le_b15 := show Hid _ from hK.2.size
  have hK := hK.alloc (B32 (bdig t)) 22
  generalize V14.alloc (.cells (B32 (bdig t)) 22) = V16 at *
  obtain ⟨b15, Hb15⟩ : ∃ b, Hid (V14.heap.size = b) := ⟨_, rfl⟩
  have ne_b12_b15 : Hid (b12 ≠ b15) := by show _ ≠ _; rw [← Hb15.out]; exact Nat.ne_of_lt lt_b12
  have ne_b9_b15 : Hid (b9 ≠ b15) := by show _ ≠ _; rw [← Hb15.out]; exact Nat.ne_of_lt lt_b9
  have ne_b6_b15 : Hid (b6 ≠ b15) := by show _ ≠ _; rw [← Hb15.out]; exact Nat.ne_of_lt lt_b6
  have ne_g4_b15 : Hid (g4 ≠ b15) := by show _ ≠ _; rw [← Hb15.out]; exact Nat.ne_of_lt lt_g4
  have ne_g3_b15 : Hid (g3 ≠ b15) := by show _ ≠ _; rw [← Hb15.out]; exact Nat.ne_of_lt lt_g3
  have ne_bM_b15 : Hid (bM ≠ b15) := by show _ ≠ _; rw [← Hb15.out]; exact Nat.ne_of_lt lt_bM
  have ne_bN_b15 : Hid (bN ≠ b15) := by show _ ≠ _; rw [← Hb15.out]; exact Nat.ne_of_lt lt_bN
  have le_b15 : Hid (w.heap.size ≤ b15) := by show _ ≤ _; rw [← Hb15.out]; exact le_b15.out
  rw [Hb15.out] at hK ⊢
  clear lt_b12 lt_b9 lt_b6 lt_g4 lt_g3 lt_bM lt_bN
  go_wp2_with (refine wpList_load_own (by rfl) 22 (.tmp 6) (by rfl) g4 (by rfl) (B32 (bdig b)) _ (hK.at g4 (B32 (bdig b)) 22 (.tail _ (.tail _ (.tail _ (.tail _ (.head _)))))) Tryd.underlying22 (by rfl) (B32_info _) ?_)
  refine (F.negA Hb.out rfl Hz.out _ (F.keep _ _ hT hK.2)).mono ?_
  rintro e V17 ⟨rfl, bw⟩
  have hK := hK.below bw
  clear bw
  go_upto_region 7 with (refine wpList_store_new (by rfl) 22 (.tmp 15) (.tmp 48) (by rfl) _ (B32 (bdig z)) (by rfl) (by rfl) (B32_info _) (B32_sizes _ _) (B32_one _) (by rfl) ?_)
  have lt_b15 := (hK.at b15 (B32 (bdig t)) 22 (.head _)).lt
  have lt_b12 := (hK.at b12 (B32 (bdig s)) 22 (.tail _ (.head _))).lt
  have lt_b9 := (hK.at b9 (B32 (bdig a)) 22 (.tail _ (.tail _ (.head _)))).lt
  have lt_b6 := (hK.at b6 (B32 (bdig x)) 22 (.tail _ (.tail _ (.tail _ (.head _))))).lt
  have lt_g4 := (hK.at g4 (B32 (bdig b)) 22 (.tail _ (.tail _ (.tail _ (.tail _ (.head _)))))).lt
  have lt_g3 := (hK.at g3 (B32 (bdig a)) 22 (.tail _ (.tail _ (.tail _ (.tail _ (.tail _ (.head _))))))).lt
  have lt_bM := (hK.at bM (B32 (bdig m)) 22 (.tail _ (.tail _ (.tail _ (.tail _ (.tail _ (.tail _ (.head _)))))))).lt
  have lt_bN := (hK.at bN (B32 (bdig n)) 22 (.tail _ (.tail _ (.tail _ (.tail _ (.tail _ (.tail _ (.tail _ (.head _))))))))).lt
  have le_b18 := show Hid _ from hK.2.size
  have hK := hK.alloc (B32 (bdig z)) 22
  generalize V17.alloc (.cells (B32 (bdig z)) 22) = V19 at *
  obtain ⟨b18, Hb18⟩ : ∃ b, Hid (V17.heap.size = b) := ⟨_, rfl⟩
  have ne_b15_b18 : Hid (b15 ≠ b18) := by show _ ≠ _; rw [← Hb18.out]; exact Nat.ne_of_lt lt_b15
  have ne_b12_b18 : Hid (b12 ≠ b18) := by show _ ≠ _; rw [← Hb18.out]; exact Nat.ne_of_lt lt_b12
  have ne_b9_b18 : Hid (b9 ≠ b18) := by show _ ≠ _; rw [← Hb18.out]; exact Nat.ne_of_lt lt_b9
  have ne_b6_b18 : Hid (b6 ≠ b18) := by show _ ≠ _; rw [← Hb18.out]; exact Nat.ne_of_lt lt_b6
  have ne_g4_b18 : Hid (g4 ≠ b18) := by show _ ≠ _; rw [← Hb18.out]; exact Nat.ne_of_lt lt_g4
  have ne_g3_b18 : Hid (g3 ≠ b18) := by show _ ≠ _; rw [← Hb18.out]; exact Nat.ne_of_lt lt_g3
  have ne_bM_b18 : Hid (bM ≠ b18) := by show _ ≠ _; rw [← Hb18.out]; exact Nat.ne_of_lt lt_bM
  have ne_bN_b18 : Hid (bN ≠ b18) := by show _ ≠ _; rw [← Hb18.out]; exact Nat.ne_of_lt lt_bN
  have le_b18 : Hid (w.heap.size ≤ b18) := by show _ ≤ _; rw [← Hb18.out]; exact le_b18.out
  rw [Hb18.out] at hK ⊢
  clear lt_b15 lt_b12 lt_b9 lt_b6 lt_g4 lt_g3 lt_bM lt_bN
  go_wp2_with (first
    | refine wpList_load_own (by rfl) 22 (.tmp 7) (by rfl) b6 (by rfl) (B32 (bdig x)) _ (hK.at b6 (B32 (bdig x)) 22 (.tail _ (.tail _ (.tail _ (.tail _ (.head _)))))) Tryd.underlying22 (by rfl) (B32_info _) ?_
    | refine wpList_load_own (by rfl) 22 (.tmp 15) (by rfl) b18 (by rfl) (B32 (bdig z)) _ (hK.at b18 (B32 (bdig z)) 22 (.head _)) Tryd.underlying22 (by rfl) (B32_info _) ?_)
  refine (F.addA Hx.out Hz.out (Pt.neg_add _ _).symm Ht.out _ (F.keep _ _ hT hK.2)).mono ?_
  rintro e V20 ⟨rfl, bw⟩
  have hK := hK.below bw
  clear bw
  go_upto_region 8 with (refine wpList_store_new (by rfl) 22 (.tmp 17) (.tmp 54) (by rfl) _ (B32 (bdig t)) (by rfl) (by rfl) (B32_info _) (B32_sizes _ _) (B32_one _) (by rfl) ?_)
  have lt_b18 := (hK.at b18 (B32 (bdig z)) 22 (.head _)).lt
  have lt_b15 := (hK.at b15 (B32 (bdig t)) 22 (.tail _ (.head _))).lt
  have lt_b12 := (hK.at b12 (B32 (bdig s)) 22 (.tail _ (.tail _ (.head _)))).lt
  have lt_b9 := (hK.at b9 (B32 (bdig a)) 22 (.tail _ (.tail _ (.tail _ (.head _))))).lt
  have lt_b6 := (hK.at b6 (B32 (bdig x)) 22 (.tail _ (.tail _ (.tail _ (.tail _ (.head _)))))).lt
  have lt_g4 := (hK.at g4 (B32 (bdig b)) 22 (.tail _ (.tail _ (.tail _ (.tail _ (.tail _ (.head _))))))).lt
  have lt_g3 := (hK.at g3 (B32 (bdig a)) 22 (.tail _ (.tail _ (.tail _ (.tail _ (.tail _ (.tail _ (.head _)))))))).lt
  have lt_bM := (hK.at bM (B32 (bdig m)) 22 (.tail _ (.tail _ (.tail _ (.tail _ (.tail _ (.tail _ (.tail _ (.head _))))))))).lt
  have lt_bN := (hK.at bN (B32 (bdig n)) 22 (.tail _ (.tail _ (.tail _ (.tail _ (.tail _ (.tail _ (.tail _ (.tail _ (.head _)))))))))).lt
  have le_b21 := show Hid _ from hK.2.size
  have hK := hK.alloc (B32 (bdig t)) 22
  generalize V20.alloc (.cells (B32 (bdig t)) 22) = V22 at *
  obtain ⟨b21, Hb21⟩ : ∃ b, Hid (V20.heap.size = b) := ⟨_, rfl⟩
  have ne_b18_b21 : Hid (b18 ≠ b21) := by show _ ≠ _; rw [← Hb21.out]; exact Nat.ne_of_lt lt_b18
  have ne_b15_b21 : Hid (b15 ≠ b21) := by show _ ≠ _; rw [← Hb21.out]; exact Nat.ne_of_lt lt_b15
  have ne_b12_b21 : Hid (b12 ≠ b21) := by show _ ≠ _; rw [← Hb21.out]; exact Nat.ne_of_lt lt_b12
  have ne_b9_b21 : Hid (b9 ≠ b21) := by show _ ≠ _; rw [← Hb21.out]; exact Nat.ne_of_lt lt_b9
  have ne_b6_b21 : Hid (b6 ≠ b21) := by show _ ≠ _; rw [← Hb21.out]; exact Nat.ne_of_lt lt_b6
  have ne_g4_b21 : Hid (g4 ≠ b21) := by show _ ≠ _; rw [← Hb21.out]; exact Nat.ne_of_lt lt_g4
  have ne_g3_b21 : Hid (g3 ≠ b21) := by show _ ≠ _; rw [← Hb21.out]; exact Nat.ne_of_lt lt_g3
  have ne_bM_b21 : Hid (bM ≠ b21) := by show _ ≠ _; rw [← Hb21.out]; exact Nat.ne_of_lt lt_bM
  have ne_bN_b21 : Hid (bN ≠ b21) := by show _ ≠ _; rw [← Hb21.out]; exact Nat.ne_of_lt lt_bN
  have le_b21 : Hid (w.heap.size ≤ b21) := by show _ ≤ _; rw [← Hb21.out]; exact le_b21.out
  rw [Hb21.out] at hK ⊢
  clear lt_b18 lt_b15 lt_b12 lt_b9 lt_b6 lt_g4 lt_g3 lt_bM lt_bN
  go_upto_region 10 with (first
    | refine wpList_load_gd (by rfl) 22 (.tmp 9) (by rfl) b9 (by rfl) (B32 (bdig a)) _ (hK.at b9 (B32 (bdig a)) 22 (.tail _ (.tail _ (.tail _ (.tail _ (.head _)))))) Tryd.underlying22 (by rfl) (B32_info _) ?_
    | refine wpList_load_gd (by rfl) 22 (.tmp 5) (by rfl) g3 (by rfl) (B32 (bdig a)) _ (hK.at g3 (B32 (bdig a)) 22 (.tail _ (.tail _ (.tail _ (.tail _ (.tail _ (.tail _ (.tail _ (.head _))))))))) Tryd.underlying22 (by rfl) (B32_info _) ?_
    | refine wpList_load_gd (by rfl) 22 (.tmp 13) (by rfl) b15 (by rfl) (B32 (bdig t)) _ (hK.at b15 (B32 (bdig t)) 22 (.tail _ (.tail _ (.head _)))) Tryd.underlying22 (by rfl) (B32_info _) ?_
    | refine wpList_load_gd (by rfl) 22 (.tmp 17) (by rfl) b21 (by rfl) (B32 (bdig t)) _ (hK.at b21 (B32 (bdig t)) 22 (.head _)) Tryd.underlying22 (by rfl) (B32_info _) ?_)
  go_upto_region 11 with (first
    | refine wpList_load_own (by rfl) 22 (.tmp 5) (by rfl) g3 (by rfl) (B32 (bdig a)) _ (hK.at g3 (B32 (bdig a)) 22 (.tail _ (.tail _ (.tail _ (.tail _ (.tail _ (.tail _ (.tail _ (.head _))))))))) Tryd.underlying22 (by rfl) (B32_info _) ?_
    | refine wpList_store_new (by rfl) 22 (.tmp 19) (.tmp 88) (by rfl) _ (B32 (bdig a)) (by rfl) (by rfl) (B32_info _) (B32_sizes _ _) (B32_one _) (by rfl) ?_)
  have lt_b21 := (hK.at b21 (B32 (bdig t)) 22 (.head _)).lt
  have lt_b18 := (hK.at b18 (B32 (bdig z)) 22 (.tail _ (.head _))).lt
  have lt_b15 := (hK.at b15 (B32 (bdig t)) 22 (.tail _ (.tail _ (.head _)))).lt
  have lt_b12 := (hK.at b12 (B32 (bdig s)) 22 (.tail _ (.tail _ (.tail _ (.head _))))).lt
  have lt_b9 := (hK.at b9 (B32 (bdig a)) 22 (.tail _ (.tail _ (.tail _ (.tail _ (.head _)))))).lt
  have lt_b6 := (hK.at b6 (B32 (bdig x)) 22 (.tail _ (.tail _ (.tail _ (.tail _ (.tail _ (.head _))))))).lt
  have lt_g4 := (hK.at g4 (B32 (bdig b)) 22 (.tail _ (.tail _ (.tail _ (.tail _ (.tail _ (.tail _ (.head _)))))))).lt
  have lt_g3 := (hK.at g3 (B32 (bdig a)) 22 (.tail _ (.tail _ (.tail _ (.tail _ (.tail _ (.tail _ (.tail _ (.head _))))))))).lt
  have lt_bM := (hK.at bM (B32 (bdig m)) 22 (.tail _ (.tail _ (.tail _ (.tail _ (.tail _ (.tail _ (.tail _ (.tail _ (.head _)))))))))).lt
  have lt_bN := (hK.at bN (B32 (bdig n)) 22 (.tail _ (.tail _ (.tail _ (.tail _ (.tail _ (.tail _ (.tail _ (.tail _ (.tail _ (.head _))))))))))).lt
  have le_b23 := show Hid _ from hK.2.size
  have hK := hK.alloc (B32 (bdig a)) 22
  generalize V22.alloc (.cells (B32 (bdig a)) 22) = V24 at *
  obtain ⟨b23, Hb23⟩ : ∃ b, Hid (V22.heap.size = b) := ⟨_, rfl⟩
  have ne_b21_b23 : Hid (b21 ≠ b23) := by show _ ≠ _; rw [← Hb23.out]; exact Nat.ne_of_lt lt_b21
  have ne_b18_b23 : Hid (b18 ≠ b23) := by show _ ≠ _; rw [← Hb23.out]; exact Nat.ne_of_lt lt_b18
  have ne_b15_b23 : Hid (b15 ≠ b23) := by show _ ≠ _; rw [← Hb23.out]; exact Nat.ne_of_lt lt_b15
  have ne_b12_b23 : Hid (b12 ≠ b23) := by show _ ≠ _; rw [← Hb23.out]; exact Nat.ne_of_lt lt_b12
  have ne_b9_b23 : Hid (b9 ≠ b23) := by show _ ≠ _; rw [← Hb23.out]; exact Nat.ne_of_lt lt_b9
  have ne_b6_b23 : Hid (b6 ≠ b23) := by show _ ≠ _; rw [← Hb23.out]; exact Nat.ne_of_lt lt_b6
  have ne_g4_b23 : Hid (g4 ≠ b23) := by show _ ≠ _; rw [← Hb23.out]; exact Nat.ne_of_lt lt_g4
  have ne_g3_b23 : Hid (g3 ≠ b23) := by show _ ≠ _; rw [← Hb23.out]; exact Nat.ne_of_lt lt_g3
  have ne_bM_b23 : Hid (bM ≠ b23) := by show _ ≠ _; rw [← Hb23.out]; exact Nat.ne_of_lt lt_bM
  have ne_bN_b23 : Hid (bN ≠ b23) := by show _ ≠ _; rw [← Hb23.out]; exact Nat.ne_of_lt lt_bN
  have le_b23 : Hid (w.heap.size ≤ b23) := by show _ ≤ _; rw [← Hb23.out]; exact le_b23.out
  rw [Hb23.out] at hK ⊢
  clear lt_b21 lt_b18 lt_b15 lt_b12 lt_b9 lt_b6 lt_g4 lt_g3 lt_bM lt_bN
  have cW := (hK.at b23 (B32 (bdig a)) 22 (.head _)).cell (B32_at (bdig a) 31 (by decide))
  have fW := (hK.at b23 (B32 (bdig a)) 22 (.head _)).frozen 31
  have hxor := flip_top (a := a) haR.out
  have hK := Kp.setCell (i := 31) (v := .int .u8 (bdig (flip a) 31 : Int)) hK (by simp only [List.forall_mem_cons, List.not_mem_nil, false_implies, implies_true, and_true]; exact ⟨ne_b21_b23.out, ne_b18_b23.out, ne_b15_b23.out, ne_b12_b23.out, ne_b9_b23.out, ne_b6_b23.out, ne_g4_b23.out, ne_g3_b23.out, ne_bM_b23.out, ne_bN_b23.out⟩) le_b23.out
  rw [B32_set _ 31 _ (by decide), B32_flip a] at hK
  generalize bdig a 31 = d31 at *
  generalize bdig (flip a) 31 = f31 at *
  go_upto_region 12 with fail
  generalize V24.setCell ⟨b23, 31, none⟩ (.int .u8 (f31 : Int)) = VV at *
  clear cW fW hxor
  rw [Hfl.out] at hK
  have hK : Kp [(b23, B32 (bdig x), 22), (b6, B32 (bdig x), 22), (g3, B32 (bdig a), 22)] w VV := (((hK.none.cons (hK.at g3 (B32 (bdig a)) 22 (.tail _ (.tail _ (.tail _ (.tail _ (.tail _ (.tail _ (.tail _ (.tail _ (.head _))))))))))).cons (hK.at b6 (B32 (bdig x)) 22 (.tail _ (.tail _ (.tail _ (.tail _ (.tail _ (.tail _ (.head _))))))))).cons (hK.at b23 (B32 (bdig x)) 22 (.head _)))
  refine wp_region_vals 117 (by kernel_rfl) (by kernel_rfl) (by rfl) (valSiT a) (fun _ => Kp [(b23, B32 (bdig x), 22), (b6, B32 (bdig x), 22), (g3, B32 (bdig a), 22)] w) hK.drew ?_ ?_
  · intro L ac wc i o hF hLi ho hd K hK
    rcases i with _ | _ | _ | i
    · have ho' := ho
      obtain rfl := Option.some.inj ho
      have f5 : ac.tmps.getD 5 undef = .pointer (some ⟨g3, 0, none⟩) := slotv hF 0 hLi 5 (by kernel_rfl)
      refine step_do ho' (wanted_free rfl) ?_
      exact wp_load_own 22 (.tmp 5) rfl g3 f5 (B32 (bdig a)) _ 22 (hF.j.at g3 (B32 (bdig a)) 22 (.tail _ (.tail _ (.head _)))) Tryd.underlying22 rfl (B32_info _) (hK _ _ (.inr rfl) hF.j)
    · have ho' := ho
      obtain rfl := Option.some.inj ho
      refine step_do ho' (wanted_free rfl) ?_
      unfold Oper.wp
      go_simp
      refine (numc_any 1 (by decide) _).mono ?_
      rintro e w' ⟨rfl, hB⟩
      exact hK _ _ (.inr rfl) (hF.j.below hB)
    · have ho' := ho
      obtain rfl := Option.some.inj ho
      have f93 : ac.tmps.getD 93 undef = .agg (B32 (bdig a)) := valv hF hd 0 rfl rfl (by kernel_rfl)
      have f94 : ac.tmps.getD 94 undef = .agg (B32 (bdig 1)) := valv hF hd 1 rfl rfl (by kernel_rfl)
      refine step_do ho' (wanted_free rfl) ?_
      unfold Oper.wp
      go_simp
      exact hK _ _ (.inr rfl) hF.j
    · cases ho
  intro L V25 hL hKq
  have hK : Kp [(b23, B32 (bdig x), 22), (b6, B32 (bdig x), 22), (g3, B32 (bdig a), 22)] w V25 := hKq
  clear hKq hL
  simp only [putAll, valSiT, Act.put, List.setIfInBounds_toArray, List.set_cons_succ, List.set_cons_zero]
  go_wp2_with (first
    | refine wpList_load_own (by rfl) 22 (.tmp 7) (by rfl) b6 (by rfl) (B32 (bdig x)) _ (hK.at b6 (B32 (bdig x)) 22 (.tail _ (.head _))) Tryd.underlying22 (by rfl) (B32_info _) ?_
    | refine wpList_load_own (by rfl) 22 (.tmp 19) (by rfl) b23 (by rfl) (B32 (bdig x)) _ (hK.at b23 (B32 (bdig x)) 22 (.head _)) Tryd.underlying22 (by rfl) (B32_info _) ?_
    | refine wpList_load_gd (by rfl) 22 (.tmp 19) (by rfl) b23 (by rfl) (B32 (bdig x)) _ (hK.at b23 (B32 (bdig x)) 22 (.head _)) Tryd.underlying22 (by rfl) (B32_info _) ?_)
  refine (F.checkA Hx.out _ (F.keep _ _ hT hK.2)).mono ?_
  rintro e w8 ⟨rfl, b8⟩
  have hK := hK.below b8
  go_wp2_with fail
  refine (cwakes_any F _ (F.keep _ _ hT hK.2)).mono ?_
  rintro e w9 ⟨rfl, b9⟩
  have hK := hK.below b9
  go_wp2
  go_ret
  exact ⟨rfl, hK.2⟩
theorem csides_any {T : World → Prop} (F : Crv T) (n m : Nat) (hn : n < R256) (hm : m < R256) (w : World) (hT : T w) : Calls Tryd.prog 7 #[.agg (B32 (bdig n)), .agg (B32 (bdig m))] w fun x w' => x = .returned (.bool true) ∧ Below w.heap.size w w' := by
  by_cases h : enc (Pt.times n BP) = 1
  · exact csides_one F n m hn hm h w hT
  · exact csides_two F n m _ hn hm rfl h w hT
end Go.Proofs.YtaekpoiaigklgaaDoor
