/- The walk of the law CurveBase, over the program's functions by their contracts. -/
import Derived.Test.YtaekpoiaigklgaaDoorY2
namespace Go.Proofs.YtaekpoiaigklgaaDoor
open Go Go.RowKit
theorem L_at {l : Nat} (hl : LL = l) (w : World) : Calls Tryd.prog 20 #[] w fun e w' => e = .returned (.agg (numA l)) ∧ Below w.heap.size w w' := by
  rw [← hl]; exact L_any w
theorem pbase_at {n c : Nat} (hn : n < R256) (hc : enc (Pt.times n BP) = c) (w : World) : Calls Tryd.prog 22 #[.agg (B32 (bdig n))] w fun e w' => e = .returned (.agg (B32 (bdig c))) ∧ Below w.heap.size w w' := by
  rw [← hc]; exact pbase n hn w
theorem modL32 {a c bS cap : Nat} {w : World} {t : TypeId} (ho : Own w bS (B32 (bdig a)) t) (ha : a < R256) (hc : a % LL = c) : Calls Tryd.prog 23 #[.slice (some ⟨bS, 0, none⟩) 32 cap] w fun x w' => x = .returned (.agg (B32 (bdig c))) ∧ Below w.heap.size w w' := by
  have h := modLs_any (bdig a) 32 bS cap (by decide) (fun i _ => bdig_lt a i) w ho.lt (fun i hi => ho.cell (B32_at _ i hi))
  rw [vb_num a ha, hc] at h
  exact h
def factBa4 (n g a : Nat) : Nat → Value → Prop
  | 0, vq => vq = .agg (B32 (bdig n))
  | 1, vq => vq = .agg (B32 (bdig 1))
  | 2, vq => vq = .agg (B32 (bdig g))
  | 3, vq => vq = .tuple #[.agg (B32 (bdig a)), .int .i64 (0)]
  | 4, vq => vq = .tuple #[.agg (B32 (bdig a)), .int .i64 (0)]
  | 5, vq => vq = .agg (B32 (bdig a))
  | 6, vq => vq = .int .i64 (0)
  | 9, vq => vq = .int .i64 (0)
  | 7, vq => ∃ g, vq = .pointer (some ⟨g, 0, none⟩)
  | _, _ => True
def valBa (bN n a s : Nat) : Nat → Value
  | 0 => .agg (B32 (bdig a))
  | 1 => .agg (B32 (bdig n))
  | 2 => .agg (B32 (bdig a))
  | 5 => .agg (B32 (bdig a))
  | 9 => .int .i64 (0)
  | 13 => .agg (B32 (bdig 1))
  | 14 => .agg (B32 (bdig 1))
  | 18 => .int .i64 (0)
  | 22 => .agg (B32 (bdig a))
  | 23 => .agg (B32 (bdig a))
  | 27 => .slice (some ⟨bN, 0, none⟩) 32 32
  | 28 => .agg (B32 (bdig s))
  | 29 => .agg (B32 (bdig a))
  | 30 => .agg (B32 (bdig a))
  | _ => .bool true

set_option maxRecDepth 100000 in
set_option maxHeartbeats 4000000 in
theorem cbase_any {T : World → Prop} (F : Crv T) (n : Nat) (hn : Hid (n < R256)) (w : World) (hT : T w) : Calls Tryd.prog 4 #[.agg (B32 (bdig n))] w fun x w' => x = .returned (.bool true) ∧ Below w.heap.size w w' := by
  have hz := (zero_of_info zeroB32).1
  obtain ⟨a, Ha⟩ : ∃ a, Hid (enc (Pt.times n BP) = a) := ⟨_, rfl⟩
  obtain ⟨g, Hg⟩ : ∃ a, Hid (enc (Pt.times 1 BP) = a) := ⟨_, rfl⟩
  obtain ⟨l, Hl⟩ : ∃ a, Hid (LL = a) := ⟨_, rfl⟩
  have hl : Hid (l < R256) := by show _ < _; rw [← Hl.out]; exact LL_lt
  have Hla : Hid (Pt.times l (Pt.times n BP) = Pt.zero) := by show _ = _; rw [← Hl.out]; exact times_L n
  obtain ⟨s, Hs⟩ : ∃ a, Hid (n % LL = a) := ⟨_, rfl⟩
  have hs : Hid (s < R256) := by show _ < _; rw [← Hs.out]; exact lt_of_modL
  have Hsa : Hid (enc (Pt.times s BP) = a) := by show _ = _; rw [← Hs.out, Pt.times_mod base_L, Ha.out]
  have same_a := B32_same a (by rw [← Ha.out]; exact enc_R _)
  have same_1 := B32_same 1 (by decide)
  go_enter Tryd.func4, Tryd.ntmps4
  go_upto_region 1 with fail
  have hK := (Kp.nil w).alloc (B32 (bdig n)) 22
  generalize w.alloc (.cells (B32 (bdig n)) 22) = W at *
  obtain ⟨bN, HbN⟩ : ∃ b, Hid (w.heap.size = b) := ⟨_, rfl⟩
  have le_bN : Hid (w.heap.size ≤ bN) := by show _ ≤ _; have := HbN.out; omega
  rw [HbN.out] at hK ⊢
  go_wp2_with (refine wpList_load_own (by rfl) 22 (.tmp 1) (by rfl) bN (by rfl) (B32 (bdig n)) _ (hK.at bN (B32 (bdig n)) 22 (.head _)) Tryd.underlying22 (by rfl) (B32_info _) ?_)
  refine (F.baseA hn.out Ha.out _ (F.keep _ _ hT hK.2)).mono ?_
  rintro e V1 ⟨rfl, bw⟩
  have hK := hK.below bw
  clear bw
  go_upto_region 2 with (refine wpList_store_new (by rfl) 22 (.tmp 3) (.tmp 10) (by rfl) _ (B32 (bdig a)) (by rfl) (by rfl) (B32_info _) (B32_sizes _ _) (B32_one _) (by rfl) ?_)
  have lt_bN := (hK.at bN (B32 (bdig n)) 22 (.head _)).lt
  have le_b2 := show Hid _ from hK.2.size
  have hK := hK.alloc (B32 (bdig a)) 22
  generalize V1.alloc (.cells (B32 (bdig a)) 22) = V3 at *
  obtain ⟨b2, Hb2⟩ : ∃ b, Hid (V1.heap.size = b) := ⟨_, rfl⟩
  have ne_bN_b2 : Hid (bN ≠ b2) := by show _ ≠ _; rw [← Hb2.out]; exact Nat.ne_of_lt lt_bN
  have le_b2 : Hid (w.heap.size ≤ b2) := by show _ ≤ _; rw [← Hb2.out]; exact le_b2.out
  rw [Hb2.out] at hK ⊢
  clear lt_bN
  go_wp2_with fail
  refine (L_at Hl.out _).mono ?_
  rintro e V4 ⟨rfl, bw⟩
  have hK := hK.below bw
  clear bw
  go_wp2_with fail
  refine (bytesOf_any l _).mono ?_
  rintro e V5 ⟨rfl, bw⟩
  have hK := hK.below bw
  clear bw
  go_upto_region 3 with (refine wpList_store_new (by rfl) 22 (.tmp 4) (.tmp 12) (by rfl) _ (B32 (bdig l)) (by rfl) (by rfl) (B32_info _) (B32_sizes _ _) (B32_one _) (by rfl) ?_)
  have lt_b2 := (hK.at b2 (B32 (bdig a)) 22 (.head _)).lt
  have lt_bN := (hK.at bN (B32 (bdig n)) 22 (.tail _ (.head _))).lt
  have le_b6 := show Hid _ from hK.2.size
  have hK := hK.alloc (B32 (bdig l)) 22
  generalize V5.alloc (.cells (B32 (bdig l)) 22) = V7 at *
  obtain ⟨b6, Hb6⟩ : ∃ b, Hid (V5.heap.size = b) := ⟨_, rfl⟩
  have ne_b2_b6 : Hid (b2 ≠ b6) := by show _ ≠ _; rw [← Hb6.out]; exact Nat.ne_of_lt lt_b2
  have ne_bN_b6 : Hid (bN ≠ b6) := by show _ ≠ _; rw [← Hb6.out]; exact Nat.ne_of_lt lt_bN
  have le_b6 : Hid (w.heap.size ≤ b6) := by show _ ≤ _; rw [← Hb6.out]; exact le_b6.out
  rw [Hb6.out] at hK ⊢
  clear lt_b2 lt_bN
  go_wp2_with (first
    | refine wpList_load_own (by rfl) 22 (.tmp 4) (by rfl) b6 (by rfl) (B32 (bdig l)) _ (hK.at b6 (B32 (bdig l)) 22 (.head _)) Tryd.underlying22 (by rfl) (B32_info _) ?_
    | refine wpList_load_own (by rfl) 22 (.tmp 3) (by rfl) b2 (by rfl) (B32 (bdig a)) _ (hK.at b2 (B32 (bdig a)) 22 (.tail _ (.head _))) Tryd.underlying22 (by rfl) (B32_info _) ?_)
  refine (F.mulA hl.out Ha.out Hla.out enc_nought _ (F.keep _ _ hT hK.2)).mono ?_
  rintro e V8 ⟨rfl, bw⟩
  have hK := hK.below bw
  clear bw
  go_upto_region 4 with (refine wpList_store_new (by rfl) 22 (.tmp 5) (.tmp 17) (by rfl) _ (B32 (bdig 1)) (by rfl) (by rfl) (B32_info _) (B32_sizes _ _) (B32_one _) (by rfl) ?_)
  have lt_b6 := (hK.at b6 (B32 (bdig l)) 22 (.head _)).lt
  have lt_b2 := (hK.at b2 (B32 (bdig a)) 22 (.tail _ (.head _))).lt
  have lt_bN := (hK.at bN (B32 (bdig n)) 22 (.tail _ (.tail _ (.head _)))).lt
  have le_b9 := show Hid _ from hK.2.size
  have hK := hK.alloc (B32 (bdig 1)) 22
  generalize V8.alloc (.cells (B32 (bdig 1)) 22) = V10 at *
  obtain ⟨b9, Hb9⟩ : ∃ b, Hid (V8.heap.size = b) := ⟨_, rfl⟩
  have ne_b6_b9 : Hid (b6 ≠ b9) := by show _ ≠ _; rw [← Hb9.out]; exact Nat.ne_of_lt lt_b6
  have ne_b2_b9 : Hid (b2 ≠ b9) := by show _ ≠ _; rw [← Hb9.out]; exact Nat.ne_of_lt lt_b2
  have ne_bN_b9 : Hid (bN ≠ b9) := by show _ ≠ _; rw [← Hb9.out]; exact Nat.ne_of_lt lt_bN
  have le_b9 : Hid (w.heap.size ≤ b9) := by show _ ≤ _; rw [← Hb9.out]; exact le_b9.out
  rw [Hb9.out] at hK ⊢
  clear lt_b6 lt_b2 lt_bN
  refine wp_region_told 62 (by kernel_rfl) (by kernel_rfl) (by rfl) (factBa4 n g a) (fun L vs => MkN 1 [(b9, B32 (bdig 1), 22), (b6, B32 (bdig l), 22), (b2, B32 (bdig a), 22), (bN, B32 (bdig n), 22)] w (fun _ => B32 fun _ => 0) (fun _ => B32 (bdig a)) (fun _ => 22) (fun i => L (7 + i)) (fun i => L (8 + i)) (fun i => vs (7 + i))) (fun _ => MkN.drew hK (fun _ _ => rfl)) ?_ ?_
  · intro L vs ac wc i o hF hLi ho hd K hK
    rcases i with _ | _ | _ | _ | _ | _ | _ | _ | _ | _ | i
    · have ho' := ho
      obtain rfl := Option.some.inj ho
      have f1 : ac.tmps.getD 1 undef = .pointer (some ⟨bN, 0, none⟩) := slott hF 0 hLi 1 (by kernel_rfl)
      refine step_do ho' (wanted_free rfl) ?_
      exact wp_load_own 22 (.tmp 1) rfl bN f1 (B32 (bdig n)) _ 22 (hF.j.1.at bN (B32 (bdig n)) 22 (.tail _ (.tail _ (.tail _ (.head _))))) Tryd.underlying22 rfl (B32_info _) (hK _ _ (.inr rfl) (hF.j.congr (fun i hi => if_off (by decide) hi) (fun i hi => if_off (by decide) hi) (fun i hi => if_off (by decide) hi)))
    · have ho' := ho
      obtain rfl := Option.some.inj ho
      refine step_do ho' (wanted_free rfl) ?_
      unfold Oper.wp
      go_simp
      refine (numc_any 1 (by decide) _).mono ?_
      rintro e w' ⟨rfl, hB⟩
      exact hK _ _ (.inr rfl) ((hF.j.congr (fun i hi => if_off (by decide) hi) (fun i hi => if_off (by decide) hi) (fun i hi => if_off (by decide) hi)).below hB)
    · have ho' := ho
      obtain rfl := Option.some.inj ho
      have f21 : ac.tmps.getD 21 undef = .agg (B32 (bdig 1)) := (factt hF hd 1 rfl rfl (by kernel_rfl)).1.trans (factt hF hd 1 rfl rfl (by kernel_rfl)).2
      refine step_do ho' (wanted_free rfl) ?_
      unfold Oper.wp
      go_simp
      refine (F.baseA (by decide) Hg.out _ (F.keep _ _ hT hF.j.1.2)).mono ?_
      rintro e w' ⟨rfl, hB⟩
      exact hK _ _ (.inr rfl) ((hF.j.congr (fun i hi => if_off (by decide) hi) (fun i hi => if_off (by decide) hi) (fun i hi => if_off (by decide) hi)).below hB)
    · have ho' := ho
      obtain rfl := Option.some.inj ho
      have f20 : ac.tmps.getD 20 undef = .agg (B32 (bdig n)) := (factt hF hd 0 rfl rfl (by kernel_rfl)).1.trans (factt hF hd 0 rfl rfl (by kernel_rfl)).2
      have f22 : ac.tmps.getD 22 undef = .agg (B32 (bdig g)) := (factt hF hd 2 rfl rfl (by kernel_rfl)).1.trans (factt hF hd 2 rfl rfl (by kernel_rfl)).2
      refine step_do ho' (wanted_free rfl) ?_
      unfold Oper.wp
      go_simp
      refine (F.mulA hn.out Hg.out (by rw [Pt.times_one]) Ha.out _ (F.keep _ _ hT hF.j.1.2)).mono ?_
      rintro e w' ⟨rfl, hB⟩
      exact hK _ _ (.inr rfl) ((hF.j.congr (fun i hi => if_off (by decide) hi) (fun i hi => if_off (by decide) hi) (fun i hi => if_off (by decide) hi)).below hB)
    · have ho' := ho
      obtain rfl := Option.some.inj ho
      have f23 : ac.tmps.getD 23 undef = .tuple #[.agg (B32 (bdig a)), .int .i64 (0)] := (factt hF hd 3 rfl rfl (by kernel_rfl)).1.trans (factt hF hd 3 rfl rfl (by kernel_rfl)).2
      refine step_do ho' (wanted_free rfl) ?_
      unfold Oper.wp
      go_simp
      exact hK _ _ (.inr rfl) (hF.j.congr (fun i hi => if_off (by decide) hi) (fun i hi => if_off (by decide) hi) (fun i hi => if_off (by decide) hi))
    · have ho' := ho
      obtain rfl := Option.some.inj ho
      have f19 : ac.tmps.getD 19 undef = .tuple #[.agg (B32 (bdig a)), .int .i64 (0)] := (factt hF hd 4 rfl rfl (by kernel_rfl)).1.trans (factt hF hd 4 rfl rfl (by kernel_rfl)).2
      refine step_do ho' (wanted_free rfl) ?_
      unfold Oper.wp
      go_simp
      exact hK _ _ (.inr rfl) (hF.j.congr (fun i hi => if_off (by decide) hi) (fun i hi => if_off (by decide) hi) (fun i hi => if_off (by decide) hi))
    · have ho' := ho
      obtain rfl := Option.some.inj ho
      have f19 : ac.tmps.getD 19 undef = .tuple #[.agg (B32 (bdig a)), .int .i64 (0)] := (factt hF hd 4 rfl rfl (by kernel_rfl)).1.trans (factt hF hd 4 rfl rfl (by kernel_rfl)).2
      refine step_do ho' (wanted_free rfl) ?_
      unfold Oper.wp
      go_simp
      exact hK _ _ (.inr rfl) (hF.j.congr (fun i hi => if_off (by decide) hi) (fun i hi => if_off (by decide) hi) (fun i hi => if_off (by decide) hi))
    · have ho' := ho
      obtain rfl := Option.some.inj ho
      refine step_do ho' (wanted_free rfl) ?_
      have hs := notyett hF 7 hLi 8 rfl (by kernel_rfl)
      unfold Oper.wp
      go_simp
      exact hK _ _ (.inr ⟨_, rfl⟩) (hF.j.alloc 0 (fun i _ hne => if_oth (k := 0) rfl hne) (fun i hi => if_off (by decide) hi) (fun i _ hne => if_oth (k := 0) rfl hne) rfl hs)
    · have ho' := ho
      obtain rfl := Option.some.inj ho
      have f24 : ac.tmps.getD 24 undef = .agg (B32 (bdig a)) := (factt hF hd 5 rfl rfl (by kernel_rfl)).1.trans (factt hF hd 5 rfl rfl (by kernel_rfl)).2
      refine step_do ho' (wanted_free rfl) ?_
      obtain ⟨fg, gq, hg⟩ := factt hF hd 7 rfl rfl (by kernel_rfl)
      have hm := dep hd 7 (by kernel_rfl)
      have hj := hF.j
      rw [hg] at fg
      have hj2 := hj.at (k := 0) (by decide) hm hg hLi
      refine wp_store_own 22 (.tmp 7) (.tmp 24) rfl gq (B32 (bdig a)) fg f24 hj2.2.2 (B32_sizes _ _) (B32_info _) (B32_one _) rfl ?_
      exact hK undef _ (.inl rfl) (hj.store (k := 0) (by decide) hm hg hLi (B32_sizes _ _) (fun i hi => if_off (by decide) hi) (fun i _ hne => if_oth (k := 0) rfl hne) (fun i hi => if_off (by decide) hi) rfl)
    · have ho' := ho
      obtain rfl := Option.some.inj ho
      have f25 : ac.tmps.getD 25 undef = .int .i64 (0) := (factt hF hd 6 rfl rfl (by kernel_rfl)).1.trans (factt hF hd 6 rfl rfl (by kernel_rfl)).2
      refine step_do ho' (wanted_free rfl) ?_
      unfold Oper.wp
      go_simp
      exact hK _ _ (.inr rfl) (hF.j.congr (fun i hi => if_off (by decide) hi) (fun i hi => if_off (by decide) hi) (fun i hi => if_off (by decide) hi))
    · cases ho
  intro L vs V11 hL hJ hf
  obtain ⟨g12, hgg12⟩ := hf 7 _ _ rfl rfl
  obtain ⟨le0, apg12, owng12⟩ := hJ.got (k := 0) (by decide) (hL 7 (by decide)) hgg12 (hL 8 (by decide))
  have le_g12 := show Hid _ from le0
  clear le0
  have hK : Kp [(g12, B32 (bdig a), 22), (b9, B32 (bdig 1), 22), (b6, B32 (bdig l), 22), (b2, B32 (bdig a), 22), (bN, B32 (bdig n), 22)] w V11 := (hJ.1.cons owng12)
  have e0 : vs 0 = _ := hf 0 _ _ rfl rfl
  have e1 : vs 1 = _ := hf 1 _ _ rfl rfl
  have e2 : vs 2 = _ := hf 2 _ _ rfl rfl
  have e3 : vs 3 = _ := hf 3 _ _ rfl rfl
  have e4 : vs 4 = _ := hf 4 _ _ rfl rfl
  have e5 : vs 5 = _ := hf 5 _ _ rfl rfl
  have e6 : vs 6 = _ := hf 6 _ _ rfl rfl
  have e9 : vs 9 = _ := hf 9 _ _ rfl rfl
  simp only [putAll, Nat.zero_add, Nat.reduceAdd, e0, e1, e2, e3, e4, e5, e6, e9, hgg12, Act.put, List.setIfInBounds_toArray, List.set_cons_succ, List.set_cons_zero]
  clear hJ hf hL e0 e1 e2 e3 e4 e5 e6 e9 hgg12 apg12 owng12
  go_upto_region 5 with fail
  have hTq := F.keep _ _ hT hK.2
  have hKq := hK
  clear hK
  refine wp_region_stable 62 (by kernel_rfl) (by kernel_rfl) (by rfl) (fun i vv _ => vv = valBa bN n a s i) (fun _ _ _ _ _ h => h) ?_ ?_
  · intro L ac wc i o hF ho hd
    rcases i with _ | _ | _ | _ | _ | _ | _ | _ | _ | _ | _ | _ | _ | _ | _ | _ | _ | _ | _ | _ | _ | _ | _ | _ | _ | _ | _ | _ | _ | _ | _ | _ | _ | _ | _ | _ | _ | i
    · obtain rfl := Option.some.inj ho
      have f3 : ac.tmps.getD 3 undef = .pointer (some ⟨b2, 0, none⟩) := slot hF 3 (by kernel_rfl)
      refine ⟨wanted_free rfl, fun K hK => ?_⟩
      exact wp_load_own 22 (.tmp 3) rfl b2 f3 (B32 (bdig a)) _ 22 ((hKq.below hF.cls).at b2 (B32 (bdig a)) 22 (by simp)) Tryd.underlying22 rfl (B32_info _) (hK _ _ (Below.refl _ _) rfl)
    · obtain rfl := Option.some.inj ho
      have f1 : ac.tmps.getD 1 undef = .pointer (some ⟨bN, 0, none⟩) := slot hF 1 (by kernel_rfl)
      refine ⟨wanted_free rfl, fun K hK => ?_⟩
      exact wp_load_own 22 (.tmp 1) rfl bN f1 (B32 (bdig n)) _ 22 ((hKq.below hF.cls).at bN (B32 (bdig n)) 22 (by simp)) Tryd.underlying22 rfl (B32_info _) (hK _ _ (Below.refl _ _) rfl)
    · obtain rfl := Option.some.inj ho
      have f27 : ac.tmps.getD 27 undef = .agg (B32 (bdig n)) := hF.fact 1 _ _ rfl rfl (dep hd 1 (by kernel_rfl))
      refine ⟨wanted_free rfl, fun K hK => ?_⟩
      unfold Oper.wp
      go_simp
      refine (pbase_at hn.out Ha.out _).mono ?_
      rintro e w' ⟨rfl, hB⟩
      exact hK _ _ hB rfl
    · obtain rfl := Option.some.inj ho
      have f26 : ac.tmps.getD 26 undef = .agg (B32 (bdig a)) := hF.fact 0 _ _ rfl rfl (dep hd 0 (by kernel_rfl))
      have f28 : ac.tmps.getD 28 undef = .agg (B32 (bdig a)) := hF.fact 2 _ _ rfl rfl (dep hd 2 (by kernel_rfl))
      refine ⟨wanted_free rfl, fun K hK => ?_⟩
      unfold Oper.wp
      go_simp
      exact hK _ _ (Below.refl _ _) rfl
    · obtain rfl := Option.some.inj ho
      have f29 : ac.tmps.getD 29 undef = .bool true := hF.fact 3 _ _ rfl rfl (dep hd 3 (by kernel_rfl))
      refine ⟨wanted_free rfl, fun K hK => ?_⟩
      unfold Oper.wp
      go_simp
      exact hK _ _ (Below.refl _ _) rfl
    · obtain rfl := Option.some.inj ho
      have f3 : ac.tmps.getD 3 undef = .pointer (some ⟨b2, 0, none⟩) := slot hF 3 (by kernel_rfl)
      have fg : ac.tmps.getD 30 undef = .bool true := hF.fact 4 _ _ rfl rfl (dep hd 4 (by kernel_rfl))
      refine ⟨wanted_true (g := 4) rfl rfl rfl fg, fun K hK => ?_⟩
      exact wp_load_own 22 (.tmp 3) rfl b2 f3 (B32 (bdig a)) _ 22 ((hKq.below hF.cls).at b2 (B32 (bdig a)) 22 (by simp)) Tryd.underlying22 rfl (B32_info _) (hK _ _ (Below.refl _ _) rfl)
    · obtain rfl := Option.some.inj ho
      have f31 : ac.tmps.getD 31 undef = .agg (B32 (bdig a)) := hF.fact 5 _ _ rfl rfl (dep hd 5 (by kernel_rfl))
      have fg : ac.tmps.getD 30 undef = .bool true := hF.fact 4 _ _ rfl rfl (dep hd 4 (by kernel_rfl))
      refine ⟨wanted_true (g := 4) rfl rfl rfl fg, fun K hK => ?_⟩
      unfold Oper.wp
      go_simp
      refine (F.checkA Ha.out _ (F.keep _ _ hTq hF.cls)).mono ?_
      rintro e w' ⟨rfl, hB⟩
      exact hK _ _ hB rfl
    · obtain rfl := Option.some.inj ho
      have f30 : ac.tmps.getD 30 undef = .bool true := hF.fact 4 _ _ rfl rfl (dep hd 4 (by kernel_rfl))
      have f32 : ac.tmps.getD 32 undef = .bool true := hF.fact 6 _ _ rfl rfl (dep hd 6 (by kernel_rfl))
      refine ⟨wanted_free rfl, fun K hK => ?_⟩
      unfold Oper.wp
      go_simp
      exact hK _ _ (Below.refl _ _) rfl
    · obtain rfl := Option.some.inj ho
      have f33 : ac.tmps.getD 33 undef = .bool true := hF.fact 7 _ _ rfl rfl (dep hd 7 (by kernel_rfl))
      refine ⟨wanted_free rfl, fun K hK => ?_⟩
      unfold Oper.wp
      go_simp
      exact hK _ _ (Below.refl _ _) rfl
    · obtain rfl := Option.some.inj ho
      have f6 : ac.tmps.getD 6 undef = .int .i64 (0) := slot hF 6 (by kernel_rfl)
      have fg : ac.tmps.getD 34 undef = .bool true := hF.fact 8 _ _ rfl rfl (dep hd 8 (by kernel_rfl))
      refine ⟨wanted_true (g := 8) rfl rfl rfl fg, fun K hK => ?_⟩
      unfold Oper.wp
      go_simp
      exact hK _ _ (Below.refl _ _) rfl
    · obtain rfl := Option.some.inj ho
      have f35 : ac.tmps.getD 35 undef = .int .i64 (0) := hF.fact 9 _ _ rfl rfl (dep hd 9 (by kernel_rfl))
      have fg : ac.tmps.getD 34 undef = .bool true := hF.fact 8 _ _ rfl rfl (dep hd 8 (by kernel_rfl))
      refine ⟨wanted_true (g := 8) rfl rfl rfl fg, fun K hK => ?_⟩
      unfold Oper.wp
      go_simp
      exact hK _ _ (Below.refl _ _) rfl
    · obtain rfl := Option.some.inj ho
      have f34 : ac.tmps.getD 34 undef = .bool true := hF.fact 8 _ _ rfl rfl (dep hd 8 (by kernel_rfl))
      have f36 : ac.tmps.getD 36 undef = .bool true := hF.fact 10 _ _ rfl rfl (dep hd 10 (by kernel_rfl))
      refine ⟨wanted_free rfl, fun K hK => ?_⟩
      unfold Oper.wp
      go_simp
      exact hK _ _ (Below.refl _ _) rfl
    · obtain rfl := Option.some.inj ho
      have f37 : ac.tmps.getD 37 undef = .bool true := hF.fact 11 _ _ rfl rfl (dep hd 11 (by kernel_rfl))
      refine ⟨wanted_free rfl, fun K hK => ?_⟩
      unfold Oper.wp
      go_simp
      exact hK _ _ (Below.refl _ _) rfl
    · obtain rfl := Option.some.inj ho
      have f5 : ac.tmps.getD 5 undef = .pointer (some ⟨b9, 0, none⟩) := slot hF 5 (by kernel_rfl)
      have fg : ac.tmps.getD 38 undef = .bool true := hF.fact 12 _ _ rfl rfl (dep hd 12 (by kernel_rfl))
      refine ⟨wanted_true (g := 12) rfl rfl rfl fg, fun K hK => ?_⟩
      exact wp_load_own 22 (.tmp 5) rfl b9 f5 (B32 (bdig 1)) _ 22 ((hKq.below hF.cls).at b9 (B32 (bdig 1)) 22 (by simp)) Tryd.underlying22 rfl (B32_info _) (hK _ _ (Below.refl _ _) rfl)
    · obtain rfl := Option.some.inj ho
      have fg : ac.tmps.getD 38 undef = .bool true := hF.fact 12 _ _ rfl rfl (dep hd 12 (by kernel_rfl))
      refine ⟨wanted_true (g := 12) rfl rfl rfl fg, fun K hK => ?_⟩
      unfold Oper.wp
      go_simp
      refine (numc_any 1 (by decide) _).mono ?_
      rintro e w' ⟨rfl, hB⟩
      exact hK _ _ hB rfl
    · obtain rfl := Option.some.inj ho
      have f39 : ac.tmps.getD 39 undef = .agg (B32 (bdig 1)) := hF.fact 13 _ _ rfl rfl (dep hd 13 (by kernel_rfl))
      have f40 : ac.tmps.getD 40 undef = .agg (B32 (bdig 1)) := hF.fact 14 _ _ rfl rfl (dep hd 14 (by kernel_rfl))
      have fg : ac.tmps.getD 38 undef = .bool true := hF.fact 12 _ _ rfl rfl (dep hd 12 (by kernel_rfl))
      refine ⟨wanted_true (g := 12) rfl rfl rfl fg, fun K hK => ?_⟩
      unfold Oper.wp
      go_simp
      exact hK _ _ (Below.refl _ _) rfl
    · obtain rfl := Option.some.inj ho
      have f38 : ac.tmps.getD 38 undef = .bool true := hF.fact 12 _ _ rfl rfl (dep hd 12 (by kernel_rfl))
      have f41 : ac.tmps.getD 41 undef = .bool true := hF.fact 15 _ _ rfl rfl (dep hd 15 (by kernel_rfl))
      refine ⟨wanted_free rfl, fun K hK => ?_⟩
      unfold Oper.wp
      go_simp
      exact hK _ _ (Below.refl _ _) rfl
    · obtain rfl := Option.some.inj ho
      have f42 : ac.tmps.getD 42 undef = .bool true := hF.fact 16 _ _ rfl rfl (dep hd 16 (by kernel_rfl))
      refine ⟨wanted_free rfl, fun K hK => ?_⟩
      unfold Oper.wp
      go_simp
      exact hK _ _ (Below.refl _ _) rfl
    · obtain rfl := Option.some.inj ho
      have f8 : ac.tmps.getD 8 undef = .int .i64 (0) := slot hF 8 (by kernel_rfl)
      have fg : ac.tmps.getD 43 undef = .bool true := hF.fact 17 _ _ rfl rfl (dep hd 17 (by kernel_rfl))
      refine ⟨wanted_true (g := 17) rfl rfl rfl fg, fun K hK => ?_⟩
      unfold Oper.wp
      go_simp
      exact hK _ _ (Below.refl _ _) rfl
    · obtain rfl := Option.some.inj ho
      have f44 : ac.tmps.getD 44 undef = .int .i64 (0) := hF.fact 18 _ _ rfl rfl (dep hd 18 (by kernel_rfl))
      have fg : ac.tmps.getD 43 undef = .bool true := hF.fact 17 _ _ rfl rfl (dep hd 17 (by kernel_rfl))
      refine ⟨wanted_true (g := 17) rfl rfl rfl fg, fun K hK => ?_⟩
      unfold Oper.wp
      go_simp
      exact hK _ _ (Below.refl _ _) rfl
    · obtain rfl := Option.some.inj ho
      have f43 : ac.tmps.getD 43 undef = .bool true := hF.fact 17 _ _ rfl rfl (dep hd 17 (by kernel_rfl))
      have f45 : ac.tmps.getD 45 undef = .bool true := hF.fact 19 _ _ rfl rfl (dep hd 19 (by kernel_rfl))
      refine ⟨wanted_free rfl, fun K hK => ?_⟩
      unfold Oper.wp
      go_simp
      exact hK _ _ (Below.refl _ _) rfl
    · obtain rfl := Option.some.inj ho
      have f46 : ac.tmps.getD 46 undef = .bool true := hF.fact 20 _ _ rfl rfl (dep hd 20 (by kernel_rfl))
      refine ⟨wanted_free rfl, fun K hK => ?_⟩
      unfold Oper.wp
      go_simp
      exact hK _ _ (Below.refl _ _) rfl
    · obtain rfl := Option.some.inj ho
      have f7 : ac.tmps.getD 7 undef = .pointer (some ⟨g12, 0, none⟩) := slot hF 7 (by kernel_rfl)
      have fg : ac.tmps.getD 47 undef = .bool true := hF.fact 21 _ _ rfl rfl (dep hd 21 (by kernel_rfl))
      refine ⟨wanted_true (g := 21) rfl rfl rfl fg, fun K hK => ?_⟩
      exact wp_load_own 22 (.tmp 7) rfl g12 f7 (B32 (bdig a)) _ 22 ((hKq.below hF.cls).at g12 (B32 (bdig a)) 22 (by simp)) Tryd.underlying22 rfl (B32_info _) (hK _ _ (Below.refl _ _) rfl)
    · obtain rfl := Option.some.inj ho
      have f3 : ac.tmps.getD 3 undef = .pointer (some ⟨b2, 0, none⟩) := slot hF 3 (by kernel_rfl)
      have fg : ac.tmps.getD 47 undef = .bool true := hF.fact 21 _ _ rfl rfl (dep hd 21 (by kernel_rfl))
      refine ⟨wanted_true (g := 21) rfl rfl rfl fg, fun K hK => ?_⟩
      exact wp_load_own 22 (.tmp 3) rfl b2 f3 (B32 (bdig a)) _ 22 ((hKq.below hF.cls).at b2 (B32 (bdig a)) 22 (by simp)) Tryd.underlying22 rfl (B32_info _) (hK _ _ (Below.refl _ _) rfl)
    · obtain rfl := Option.some.inj ho
      have f48 : ac.tmps.getD 48 undef = .agg (B32 (bdig a)) := hF.fact 22 _ _ rfl rfl (dep hd 22 (by kernel_rfl))
      have f49 : ac.tmps.getD 49 undef = .agg (B32 (bdig a)) := hF.fact 23 _ _ rfl rfl (dep hd 23 (by kernel_rfl))
      have fg : ac.tmps.getD 47 undef = .bool true := hF.fact 21 _ _ rfl rfl (dep hd 21 (by kernel_rfl))
      refine ⟨wanted_true (g := 21) rfl rfl rfl fg, fun K hK => ?_⟩
      unfold Oper.wp
      go_simp
      exact hK _ _ (Below.refl _ _) rfl
    · obtain rfl := Option.some.inj ho
      have f47 : ac.tmps.getD 47 undef = .bool true := hF.fact 21 _ _ rfl rfl (dep hd 21 (by kernel_rfl))
      have f50 : ac.tmps.getD 50 undef = .bool true := hF.fact 24 _ _ rfl rfl (dep hd 24 (by kernel_rfl))
      refine ⟨wanted_free rfl, fun K hK => ?_⟩
      unfold Oper.wp
      go_simp
      exact hK _ _ (Below.refl _ _) rfl
    · obtain rfl := Option.some.inj ho
      have f51 : ac.tmps.getD 51 undef = .bool true := hF.fact 25 _ _ rfl rfl (dep hd 25 (by kernel_rfl))
      refine ⟨wanted_free rfl, fun K hK => ?_⟩
      unfold Oper.wp
      go_simp
      exact hK _ _ (Below.refl _ _) rfl
    · obtain rfl := Option.some.inj ho
      have f1 : ac.tmps.getD 1 undef = .pointer (some ⟨bN, 0, none⟩) := slot hF 1 (by kernel_rfl)
      have fg : ac.tmps.getD 52 undef = .bool true := hF.fact 26 _ _ rfl rfl (dep hd 26 (by kernel_rfl))
      refine ⟨wanted_true (g := 26) rfl rfl rfl fg, fun K hK => ?_⟩
      unfold Oper.wp
      go_simp
      exact hK _ _ (Below.refl _ _) rfl
    · obtain rfl := Option.some.inj ho
      have f53 : ac.tmps.getD 53 undef = .slice (some ⟨bN, 0, none⟩) 32 32 := hF.fact 27 _ _ rfl rfl (dep hd 27 (by kernel_rfl))
      have fg : ac.tmps.getD 52 undef = .bool true := hF.fact 26 _ _ rfl rfl (dep hd 26 (by kernel_rfl))
      refine ⟨wanted_true (g := 26) rfl rfl rfl fg, fun K hK => ?_⟩
      unfold Oper.wp
      go_simp
      refine (modL32 ((hKq.below hF.cls).at bN (B32 (bdig n)) 22 (by simp)) hn.out Hs.out).mono ?_
      rintro e w' ⟨rfl, hB⟩
      exact hK _ _ hB rfl
    · obtain rfl := Option.some.inj ho
      have f54 : ac.tmps.getD 54 undef = .agg (B32 (bdig s)) := hF.fact 28 _ _ rfl rfl (dep hd 28 (by kernel_rfl))
      have fg : ac.tmps.getD 52 undef = .bool true := hF.fact 26 _ _ rfl rfl (dep hd 26 (by kernel_rfl))
      refine ⟨wanted_true (g := 26) rfl rfl rfl fg, fun K hK => ?_⟩
      unfold Oper.wp
      go_simp
      refine (F.baseA hs.out Hsa.out _ (F.keep _ _ hTq hF.cls)).mono ?_
      rintro e w' ⟨rfl, hB⟩
      exact hK _ _ hB rfl
    · obtain rfl := Option.some.inj ho
      have f3 : ac.tmps.getD 3 undef = .pointer (some ⟨b2, 0, none⟩) := slot hF 3 (by kernel_rfl)
      have fg : ac.tmps.getD 52 undef = .bool true := hF.fact 26 _ _ rfl rfl (dep hd 26 (by kernel_rfl))
      refine ⟨wanted_true (g := 26) rfl rfl rfl fg, fun K hK => ?_⟩
      exact wp_load_own 22 (.tmp 3) rfl b2 f3 (B32 (bdig a)) _ 22 ((hKq.below hF.cls).at b2 (B32 (bdig a)) 22 (by simp)) Tryd.underlying22 rfl (B32_info _) (hK _ _ (Below.refl _ _) rfl)
    · obtain rfl := Option.some.inj ho
      have f55 : ac.tmps.getD 55 undef = .agg (B32 (bdig a)) := hF.fact 29 _ _ rfl rfl (dep hd 29 (by kernel_rfl))
      have f56 : ac.tmps.getD 56 undef = .agg (B32 (bdig a)) := hF.fact 30 _ _ rfl rfl (dep hd 30 (by kernel_rfl))
      have fg : ac.tmps.getD 52 undef = .bool true := hF.fact 26 _ _ rfl rfl (dep hd 26 (by kernel_rfl))
      refine ⟨wanted_true (g := 26) rfl rfl rfl fg, fun K hK => ?_⟩
      unfold Oper.wp
      go_simp
      exact hK _ _ (Below.refl _ _) rfl
    · obtain rfl := Option.some.inj ho
      have f52 : ac.tmps.getD 52 undef = .bool true := hF.fact 26 _ _ rfl rfl (dep hd 26 (by kernel_rfl))
      have f57 : ac.tmps.getD 57 undef = .bool true := hF.fact 31 _ _ rfl rfl (dep hd 31 (by kernel_rfl))
      refine ⟨wanted_free rfl, fun K hK => ?_⟩
      unfold Oper.wp
      go_simp
      exact hK _ _ (Below.refl _ _) rfl
    · obtain rfl := Option.some.inj ho
      have f58 : ac.tmps.getD 58 undef = .bool true := hF.fact 32 _ _ rfl rfl (dep hd 32 (by kernel_rfl))
      refine ⟨wanted_free rfl, fun K hK => ?_⟩
      unfold Oper.wp
      go_simp
      exact hK _ _ (Below.refl _ _) rfl
    · obtain rfl := Option.some.inj ho
      have fg : ac.tmps.getD 59 undef = .bool true := hF.fact 33 _ _ rfl rfl (dep hd 33 (by kernel_rfl))
      refine ⟨wanted_true (g := 33) rfl rfl rfl fg, fun K hK => ?_⟩
      unfold Oper.wp
      go_simp
      refine (cwakes_any F _ (F.keep _ _ hTq hF.cls)).mono ?_
      rintro e w' ⟨rfl, hB⟩
      exact hK _ _ hB rfl
    · obtain rfl := Option.some.inj ho
      have f59 : ac.tmps.getD 59 undef = .bool true := hF.fact 33 _ _ rfl rfl (dep hd 33 (by kernel_rfl))
      have f60 : ac.tmps.getD 60 undef = .bool true := hF.fact 34 _ _ rfl rfl (dep hd 34 (by kernel_rfl))
      refine ⟨wanted_free rfl, fun K hK => ?_⟩
      unfold Oper.wp
      go_simp
      exact hK _ _ (Below.refl _ _) rfl
    · obtain rfl := Option.some.inj ho
      have f61 : ac.tmps.getD 61 undef = .bool true := hF.fact 35 _ _ rfl rfl (dep hd 35 (by kernel_rfl))
      refine ⟨wanted_free rfl, fun K hK => ?_⟩
      unfold Oper.wp
      go_simp
      exact hK _ _ (Below.refl _ _) rfl
    · cases ho
  · intro L ac wc hL hF
    have fe : ac.tmps.getD 2 undef = .bool true := hF.fact 36 _ 2 rfl rfl (hL 36 (by decide))
    have hb' := (hKq.below hF.cls).2
    go_wp2
    exact bodyPost_ret (results_tmp rfl _ _ _) hF.defers ⟨by rw [fe], hb'⟩
end Go.Proofs.YtaekpoiaigklgaaDoor
