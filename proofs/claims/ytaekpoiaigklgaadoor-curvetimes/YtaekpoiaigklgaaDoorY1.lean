/- The walk of the law CurveGroup, over the program's functions by their contracts. -/
import Derived.Test.YtaekpoiaigklgaaDoorW0
import Derived.Test.YtaekpoiaigklgaaDoorSA
namespace Go.Proofs.YtaekpoiaigklgaaDoor
open Go Go.RowKit
theorem muladd_at {a b c d : Nat} (ha : a < R256) (hb : b < R256) (hc : c < R256) (hd : (a * b + c) % LL = d) (w : World) : Calls Tryd.prog 24 #[.agg (B32 (bdig a)), .agg (B32 (bdig b)), .agg (B32 (bdig c))] w fun x w' => x = .returned (.agg (B32 (bdig d))) ∧ Below w.heap.size w w' := by
  rw [← hd]; exact muladd_any a b c ha hb hc w
def factGr1 (n m k a b c : Nat) : Nat → Value → Prop
  | 0, vq => vq = .agg (B32 (bdig n))
  | 1, vq => vq = .agg (B32 (bdig a))
  | 2, vq => vq = .agg (B32 (bdig m))
  | 3, vq => vq = .agg (B32 (bdig b))
  | 4, vq => vq = .agg (B32 (bdig k))
  | 5, vq => vq = .agg (B32 (bdig c))
  | 6, vq => ∃ g, vq = .pointer (some ⟨g, 0, none⟩)
  | 7, vq => ∃ g, vq = .pointer (some ⟨g, 0, none⟩)
  | 8, vq => ∃ g, vq = .pointer (some ⟨g, 0, none⟩)
  | _, _ => True
def factGr9 (a : Nat) : Nat → Value → Prop
  | 0, vq => vq = .agg (B32 (bdig a))
  | 1, vq => vq = .agg (B32 (bdig 1))
  | 2, vq => vq = .tuple #[.agg (B32 (bdig a)), .int .i64 (0)]
  | 3, vq => vq = .tuple #[.agg (B32 (bdig a)), .int .i64 (0)]
  | 4, vq => vq = .agg (B32 (bdig a))
  | 5, vq => vq = .int .i64 (0)
  | 8, vq => vq = .int .i64 (0)
  | 6, vq => ∃ g, vq = .pointer (some ⟨g, 0, none⟩)
  | _, _ => True
def valGr (n m a x z s : Nat) : Nat → Value
  | 0 => .int .i64 (0)
  | 3 => .int .i64 (0)
  | 7 => .int .i64 (0)
  | 11 => .int .i64 (0)
  | 15 => .int .i64 (0)
  | 19 => .int .i64 (0)
  | 23 => .int .i64 (0)
  | 27 => .int .i64 (0)
  | 31 => .agg (B32 (bdig x))
  | 32 => .agg (B32 (bdig x))
  | 36 => .agg (B32 (bdig z))
  | 37 => .agg (B32 (bdig z))
  | 41 => .agg (B32 (bdig 1))
  | 42 => .agg (B32 (bdig 1))
  | 46 => .agg (B32 (bdig a))
  | 47 => .agg (B32 (bdig a))
  | 51 => .agg (B32 (bdig n))
  | 52 => .agg (B32 (bdig 1))
  | 53 => .agg (B32 (bdig m))
  | 54 => .agg (B32 (bdig s))
  | 55 => .agg (B32 (bdig x))
  | 56 => .agg (B32 (bdig x))
  | _ => .bool true

set_option maxRecDepth 100000 in
set_option maxHeartbeats 4000000 in
theorem cgroup_any {T : World → Prop} (F : Crv T) (n m k : Nat) (hn : Hid (n < R256)) (hm : Hid (m < R256)) (hk : Hid (k < R256)) (w : World) (hT : T w) : Calls Tryd.prog 5 #[.agg (B32 (bdig n)), .agg (B32 (bdig m)), .agg (B32 (bdig k))] w fun x w' => x = .returned (.bool true) ∧ Below w.heap.size w w' := by
  have hz := (zero_of_info zeroB32).1
  obtain ⟨a, Ha⟩ : ∃ a, Hid (enc (Pt.times n BP) = a) := ⟨_, rfl⟩
  obtain ⟨b, Hb⟩ : ∃ a, Hid (enc (Pt.times m BP) = a) := ⟨_, rfl⟩
  obtain ⟨c, Hc⟩ : ∃ a, Hid (enc (Pt.times k BP) = a) := ⟨_, rfl⟩
  obtain ⟨x, Hx⟩ : ∃ a, Hid (enc ((Pt.times n BP).add (Pt.times m BP)) = a) := ⟨_, rfl⟩
  obtain ⟨z, Hz⟩ : ∃ a, Hid (enc (((Pt.times n BP).add (Pt.times m BP)).add (Pt.times k BP)) = a) := ⟨_, rfl⟩
  obtain ⟨u, Hu⟩ : ∃ a, Hid (enc ((Pt.times m BP).add (Pt.times k BP)) = a) := ⟨_, rfl⟩
  obtain ⟨o, Ho⟩ : ∃ a, Hid (enc (Pt.times n BP).neg = a) := ⟨_, rfl⟩
  obtain ⟨s, Hs⟩ : ∃ a, Hid ((n * 1 + m) % LL = a) := ⟨_, rfl⟩
  have hs : Hid (s < R256) := by show _ < _; rw [← Hs.out]; exact lt_of_modL
  have Hbs : Hid (enc (Pt.times s BP) = x) := by show _ = _; rw [← Hs.out, Pt.times_mod base_L, Nat.mul_one, Pt.times_add, Hx.out]
  have same_x := B32_same x (by rw [← Hx.out]; exact enc_R _)
  have same_z := B32_same z (by rw [← Hz.out]; exact enc_R _)
  have same_a := B32_same a (by rw [← Ha.out]; exact enc_R _)
  have same_1 := B32_same 1 (by decide)
  go_enter Tryd.func5, Tryd.ntmps5
  go_upto_region 1 with fail
  have hK := (((Kp.nil w).alloc (B32 (bdig n)) 22).alloc (B32 (bdig m)) 22).alloc (B32 (bdig k)) 22
  rw [World.size_alloc, World.size_alloc] at hK
  generalize ((w.alloc (.cells (B32 (bdig n)) 22)).alloc (.cells (B32 (bdig m)) 22)).alloc (.cells (B32 (bdig k)) 22) = W at *
  obtain ⟨bN, HbN⟩ : ∃ b, Hid (w.heap.size = b) := ⟨_, rfl⟩
  obtain ⟨bM, HbM⟩ : ∃ b, Hid (bN + 1 = b) := ⟨_, rfl⟩
  obtain ⟨bK, HbK⟩ : ∃ b, Hid (bM + 1 = b) := ⟨_, rfl⟩
  have le_bN : Hid (w.heap.size ≤ bN) := by show _ ≤ _; have := HbN.out; omega
  have le_bM : Hid (w.heap.size ≤ bM) := by show _ ≤ _; have := HbN.out; have := HbM.out; omega
  have le_bK : Hid (w.heap.size ≤ bK) := by show _ ≤ _; have := HbN.out; have := HbM.out; have := HbK.out; omega
  have ne_bN_bM : Hid (bN ≠ bM) := by show _ ≠ _; have := HbM.out; omega
  have ne_bN_bK : Hid (bN ≠ bK) := by show _ ≠ _; have := HbM.out; have := HbK.out; omega
  have ne_bM_bK : Hid (bM ≠ bK) := by show _ ≠ _; have := HbK.out; omega
  rw [HbN.out, HbM.out, HbK.out] at hK ⊢
  obtain ⟨Af1, Af1_0, Af1_1, Af1_2⟩ : ∃ qf : Nat → Array Value, Hid (qf 0 = B32 (bdig a)) ∧ Hid (qf 1 = B32 (bdig b)) ∧ Hid (qf 2 = B32 (bdig c)) := ⟨fun qi => ([B32 (bdig a), B32 (bdig b), B32 (bdig c)] : List (Array Value)).getD qi #[], by show _ = _; simp, by show _ = _; simp, by show _ = _; simp⟩
  refine wp_region_told 141 (by kernel_rfl) (by kernel_rfl) (by rfl) (factGr1 n m k a b c) (fun L vs => MkN 3 [(bK, B32 (bdig k), 22), (bM, B32 (bdig m), 22), (bN, B32 (bdig n), 22)] w (fun _ => B32 fun _ => 0) (Af1) (fun _ => 22) (fun i => L (6 + i)) (fun i => L (9 + i)) (fun i => vs (6 + i))) (fun _ => MkN.drew hK (fun _ _ => rfl)) ?_ ?_
  · intro L vs ac wc i o hF hLi ho hd K hK
    rcases i with _ | _ | _ | _ | _ | _ | _ | _ | _ | _ | _ | _ | i
    · have ho' := ho
      obtain rfl := Option.some.inj ho
      have f3 : ac.tmps.getD 3 undef = .pointer (some ⟨bN, 0, none⟩) := slott hF 0 hLi 3 (by kernel_rfl)
      refine step_do ho' (wanted_free rfl) ?_
      exact wp_load_own 22 (.tmp 3) rfl bN f3 (B32 (bdig n)) _ 22 (hF.j.1.at bN (B32 (bdig n)) 22 (.tail _ (.tail _ (.head _)))) Tryd.underlying22 rfl (B32_info _) (hK _ _ (.inr rfl) (hF.j.congr (fun i hi => if_off (by decide) hi) (fun i hi => if_off (by decide) hi) (fun i hi => if_off (by decide) hi)))
    · have ho' := ho
      obtain rfl := Option.some.inj ho
      have f26 : ac.tmps.getD 26 undef = .agg (B32 (bdig n)) := (factt hF hd 0 rfl rfl (by kernel_rfl)).1.trans (factt hF hd 0 rfl rfl (by kernel_rfl)).2
      refine step_do ho' (wanted_free rfl) ?_
      unfold Oper.wp
      go_simp
      refine (F.baseA hn.out Ha.out _ (F.keep _ _ hT hF.j.1.2)).mono ?_
      rintro e w' ⟨rfl, hB⟩
      exact hK _ _ (.inr rfl) ((hF.j.congr (fun i hi => if_off (by decide) hi) (fun i hi => if_off (by decide) hi) (fun i hi => if_off (by decide) hi)).below hB)
    · have ho' := ho
      obtain rfl := Option.some.inj ho
      have f4 : ac.tmps.getD 4 undef = .pointer (some ⟨bM, 0, none⟩) := slott hF 2 hLi 4 (by kernel_rfl)
      refine step_do ho' (wanted_free rfl) ?_
      exact wp_load_own 22 (.tmp 4) rfl bM f4 (B32 (bdig m)) _ 22 (hF.j.1.at bM (B32 (bdig m)) 22 (.tail _ (.head _))) Tryd.underlying22 rfl (B32_info _) (hK _ _ (.inr rfl) (hF.j.congr (fun i hi => if_off (by decide) hi) (fun i hi => if_off (by decide) hi) (fun i hi => if_off (by decide) hi)))
    · have ho' := ho
      obtain rfl := Option.some.inj ho
      have f28 : ac.tmps.getD 28 undef = .agg (B32 (bdig m)) := (factt hF hd 2 rfl rfl (by kernel_rfl)).1.trans (factt hF hd 2 rfl rfl (by kernel_rfl)).2
      refine step_do ho' (wanted_free rfl) ?_
      unfold Oper.wp
      go_simp
      refine (F.baseA hm.out Hb.out _ (F.keep _ _ hT hF.j.1.2)).mono ?_
      rintro e w' ⟨rfl, hB⟩
      exact hK _ _ (.inr rfl) ((hF.j.congr (fun i hi => if_off (by decide) hi) (fun i hi => if_off (by decide) hi) (fun i hi => if_off (by decide) hi)).below hB)
    · have ho' := ho
      obtain rfl := Option.some.inj ho
      have f5 : ac.tmps.getD 5 undef = .pointer (some ⟨bK, 0, none⟩) := slott hF 4 hLi 5 (by kernel_rfl)
      refine step_do ho' (wanted_free rfl) ?_
      exact wp_load_own 22 (.tmp 5) rfl bK f5 (B32 (bdig k)) _ 22 (hF.j.1.at bK (B32 (bdig k)) 22 (.head _)) Tryd.underlying22 rfl (B32_info _) (hK _ _ (.inr rfl) (hF.j.congr (fun i hi => if_off (by decide) hi) (fun i hi => if_off (by decide) hi) (fun i hi => if_off (by decide) hi)))
    · have ho' := ho
      obtain rfl := Option.some.inj ho
      have f30 : ac.tmps.getD 30 undef = .agg (B32 (bdig k)) := (factt hF hd 4 rfl rfl (by kernel_rfl)).1.trans (factt hF hd 4 rfl rfl (by kernel_rfl)).2
      refine step_do ho' (wanted_free rfl) ?_
      unfold Oper.wp
      go_simp
      refine (F.baseA hk.out Hc.out _ (F.keep _ _ hT hF.j.1.2)).mono ?_
      rintro e w' ⟨rfl, hB⟩
      exact hK _ _ (.inr rfl) ((hF.j.congr (fun i hi => if_off (by decide) hi) (fun i hi => if_off (by decide) hi) (fun i hi => if_off (by decide) hi)).below hB)
    · have ho' := ho
      obtain rfl := Option.some.inj ho
      refine step_do ho' (wanted_free rfl) ?_
      have hs := notyett hF 6 hLi 9 rfl (by kernel_rfl)
      unfold Oper.wp
      go_simp
      exact hK _ _ (.inr ⟨_, rfl⟩) (hF.j.alloc 0 (fun i _ hne => if_oth (k := 0) rfl hne) (fun i hi => if_off (by decide) hi) (fun i _ hne => if_oth (k := 0) rfl hne) rfl hs)
    · have ho' := ho
      obtain rfl := Option.some.inj ho
      refine step_do ho' (wanted_free rfl) ?_
      have hs := notyett hF 7 hLi 10 rfl (by kernel_rfl)
      unfold Oper.wp
      go_simp
      exact hK _ _ (.inr ⟨_, rfl⟩) (hF.j.alloc 1 (fun i _ hne => if_oth (k := 1) rfl hne) (fun i hi => if_off (by decide) hi) (fun i _ hne => if_oth (k := 1) rfl hne) rfl hs)
    · have ho' := ho
      obtain rfl := Option.some.inj ho
      refine step_do ho' (wanted_free rfl) ?_
      have hs := notyett hF 8 hLi 11 rfl (by kernel_rfl)
      unfold Oper.wp
      go_simp
      exact hK _ _ (.inr ⟨_, rfl⟩) (hF.j.alloc 2 (fun i _ hne => if_oth (k := 2) rfl hne) (fun i hi => if_off (by decide) hi) (fun i _ hne => if_oth (k := 2) rfl hne) rfl hs)
    · have ho' := ho
      obtain rfl := Option.some.inj ho
      have f27 : ac.tmps.getD 27 undef = .agg (B32 (bdig a)) := (factt hF hd 1 rfl rfl (by kernel_rfl)).1.trans (factt hF hd 1 rfl rfl (by kernel_rfl)).2
      refine step_do ho' (wanted_free rfl) ?_
      obtain ⟨fg, gq, hg⟩ := factt hF hd 6 rfl rfl (by kernel_rfl)
      have hm := dep hd 6 (by kernel_rfl)
      have hj := hF.j
      rw [hg] at fg
      have hj2 := hj.at (k := 0) (by decide) hm hg hLi
      refine wp_store_own 22 (.tmp 7) (.tmp 27) rfl gq (B32 (bdig a)) fg f27 hj2.2.2 (B32_sizes _ _) (B32_info _) (B32_one _) rfl ?_
      exact hK undef _ (.inl rfl) (hj.storeA (k := 0) Af1_0.out (by decide) hm hg hLi (B32_sizes _ _) (fun i hi => if_off (by decide) hi) (fun i _ hne => if_oth (k := 0) rfl hne) (fun i hi => if_off (by decide) hi) rfl)
    · have ho' := ho
      obtain rfl := Option.some.inj ho
      have f29 : ac.tmps.getD 29 undef = .agg (B32 (bdig b)) := (factt hF hd 3 rfl rfl (by kernel_rfl)).1.trans (factt hF hd 3 rfl rfl (by kernel_rfl)).2
      refine step_do ho' (wanted_free rfl) ?_
      obtain ⟨fg, gq, hg⟩ := factt hF hd 7 rfl rfl (by kernel_rfl)
      have hm := dep hd 7 (by kernel_rfl)
      have hj := hF.j
      rw [hg] at fg
      have hj2 := hj.at (k := 1) (by decide) hm hg hLi
      refine wp_store_own 22 (.tmp 8) (.tmp 29) rfl gq (B32 (bdig b)) fg f29 hj2.2.2 (B32_sizes _ _) (B32_info _) (B32_one _) rfl ?_
      exact hK undef _ (.inl rfl) (hj.storeA (k := 1) Af1_1.out (by decide) hm hg hLi (B32_sizes _ _) (fun i hi => if_off (by decide) hi) (fun i _ hne => if_oth (k := 1) rfl hne) (fun i hi => if_off (by decide) hi) rfl)
    · have ho' := ho
      obtain rfl := Option.some.inj ho
      have f31 : ac.tmps.getD 31 undef = .agg (B32 (bdig c)) := (factt hF hd 5 rfl rfl (by kernel_rfl)).1.trans (factt hF hd 5 rfl rfl (by kernel_rfl)).2
      refine step_do ho' (wanted_free rfl) ?_
      obtain ⟨fg, gq, hg⟩ := factt hF hd 8 rfl rfl (by kernel_rfl)
      have hm := dep hd 8 (by kernel_rfl)
      have hj := hF.j
      rw [hg] at fg
      have hj2 := hj.at (k := 2) (by decide) hm hg hLi
      refine wp_store_own 22 (.tmp 9) (.tmp 31) rfl gq (B32 (bdig c)) fg f31 hj2.2.2 (B32_sizes _ _) (B32_info _) (B32_one _) rfl ?_
      exact hK undef _ (.inl rfl) (hj.storeA (k := 2) Af1_2.out (by decide) hm hg hLi (B32_sizes _ _) (fun i hi => if_off (by decide) hi) (fun i _ hne => if_oth (k := 2) rfl hne) (fun i hi => if_off (by decide) hi) rfl)
    · cases ho
  intro L vs V2 hL hJ hf
  obtain ⟨g3, hgg3⟩ := hf 6 _ _ rfl rfl
  obtain ⟨le0, apg3, owng3⟩ := hJ.gotA (k := 0) Af1_0.out (by decide) (hL 6 (by decide)) hgg3 (hL 9 (by decide))
  have le_g3 := show Hid _ from le0
  clear le0
  obtain ⟨g4, hgg4⟩ := hf 7 _ _ rfl rfl
  obtain ⟨le0, apg4, owng4⟩ := hJ.gotA (k := 1) Af1_1.out (by decide) (hL 7 (by decide)) hgg4 (hL 10 (by decide))
  have le_g4 := show Hid _ from le0
  clear le0
  obtain ⟨g5, hgg5⟩ := hf 8 _ _ rfl rfl
  obtain ⟨le0, apg5, owng5⟩ := hJ.gotA (k := 2) Af1_2.out (by decide) (hL 8 (by decide)) hgg5 (hL 11 (by decide))
  have le_g5 := show Hid _ from le0
  clear le0
  have ne_g3_g4 : Hid (g3 ≠ g4) := hJ.apart (i := 0) (j := 1) (by decide) (by decide) (by decide) (hL 6 (by decide)) (hL 7 (by decide)) hgg3 hgg4
  have ne_g3_g5 : Hid (g3 ≠ g5) := hJ.apart (i := 0) (j := 2) (by decide) (by decide) (by decide) (hL 6 (by decide)) (hL 8 (by decide)) hgg3 hgg5
  have ne_g4_g5 : Hid (g4 ≠ g5) := hJ.apart (i := 1) (j := 2) (by decide) (by decide) (by decide) (hL 7 (by decide)) (hL 8 (by decide)) hgg4 hgg5
  have hK : Kp [(g5, B32 (bdig c), 22), (g4, B32 (bdig b), 22), (g3, B32 (bdig a), 22), (bK, B32 (bdig k), 22), (bM, B32 (bdig m), 22), (bN, B32 (bdig n), 22)] w V2 := (((hJ.1.cons owng3).cons owng4).cons owng5)
  have e0 : vs 0 = _ := hf 0 _ _ rfl rfl
  have e1 : vs 1 = _ := hf 1 _ _ rfl rfl
  have e2 : vs 2 = _ := hf 2 _ _ rfl rfl
  have e3 : vs 3 = _ := hf 3 _ _ rfl rfl
  have e4 : vs 4 = _ := hf 4 _ _ rfl rfl
  have e5 : vs 5 = _ := hf 5 _ _ rfl rfl
  simp only [putAll, Nat.zero_add, Nat.reduceAdd, e0, e1, e2, e3, e4, e5, hgg3, hgg4, hgg5, Act.put, List.setIfInBounds_toArray, List.set_cons_succ, List.set_cons_zero]
  clear hJ hf hL e0 e1 e2 e3 e4 e5 hgg3 hgg4 hgg5 apg3 apg4 apg5 owng3 owng4 owng5
  go_upto_region 2 with fail
  go_wp2_with (first
    | refine wpList_load_own (by rfl) 22 (.tmp 7) (by rfl) g3 (by rfl) (B32 (bdig a)) _ (hK.at g3 (B32 (bdig a)) 22 (.tail _ (.tail _ (.head _)))) Tryd.underlying22 (by rfl) (B32_info _) ?_
    | refine wpList_load_own (by rfl) 22 (.tmp 8) (by rfl) g4 (by rfl) (B32 (bdig b)) _ (hK.at g4 (B32 (bdig b)) 22 (.tail _ (.head _))) Tryd.underlying22 (by rfl) (B32_info _) ?_)
  refine (F.addA Ha.out Hb.out rfl Hx.out _ (F.keep _ _ hT hK.2)).mono ?_
  rintro e V6 ⟨rfl, bw⟩
  have hK := hK.below bw
  clear bw
  go_upto_region 3 with (refine wpList_store_new (by rfl) 22 (.tmp 10) (.tmp 36) (by rfl) _ (B32 (bdig x)) (by rfl) (by rfl) (B32_info _) (B32_sizes _ _) (B32_one _) (by rfl) ?_)
  have lt_g5 := (hK.at g5 (B32 (bdig c)) 22 (.head _)).lt
  have lt_g4 := (hK.at g4 (B32 (bdig b)) 22 (.tail _ (.head _))).lt
  have lt_g3 := (hK.at g3 (B32 (bdig a)) 22 (.tail _ (.tail _ (.head _)))).lt
  have lt_bK := (hK.at bK (B32 (bdig k)) 22 (.tail _ (.tail _ (.tail _ (.head _))))).lt
  have lt_bM := (hK.at bM (B32 (bdig m)) 22 (.tail _ (.tail _ (.tail _ (.tail _ (.head _)))))).lt
  have lt_bN := (hK.at bN (B32 (bdig n)) 22 (.tail _ (.tail _ (.tail _ (.tail _ (.tail _ (.head _))))))).lt
  have le_b7 := show Hid _ from hK.2.size
  have hK := hK.alloc (B32 (bdig x)) 22
  generalize V6.alloc (.cells (B32 (bdig x)) 22) = V8 at *
  obtain ⟨b7, Hb7⟩ : ∃ b, Hid (V6.heap.size = b) := ⟨_, rfl⟩
  have ne_g5_b7 : Hid (g5 ≠ b7) := by show _ ≠ _; rw [← Hb7.out]; exact Nat.ne_of_lt lt_g5
  have ne_g4_b7 : Hid (g4 ≠ b7) := by show _ ≠ _; rw [← Hb7.out]; exact Nat.ne_of_lt lt_g4
  have ne_g3_b7 : Hid (g3 ≠ b7) := by show _ ≠ _; rw [← Hb7.out]; exact Nat.ne_of_lt lt_g3
  have ne_bK_b7 : Hid (bK ≠ b7) := by show _ ≠ _; rw [← Hb7.out]; exact Nat.ne_of_lt lt_bK
  have ne_bM_b7 : Hid (bM ≠ b7) := by show _ ≠ _; rw [← Hb7.out]; exact Nat.ne_of_lt lt_bM
  have ne_bN_b7 : Hid (bN ≠ b7) := by show _ ≠ _; rw [← Hb7.out]; exact Nat.ne_of_lt lt_bN
  have le_b7 : Hid (w.heap.size ≤ b7) := by show _ ≤ _; rw [← Hb7.out]; exact le_b7.out
  rw [Hb7.out] at hK ⊢
  clear lt_g5 lt_g4 lt_g3 lt_bK lt_bM lt_bN
  go_wp2_with (first
    | refine wpList_load_own (by rfl) 22 (.tmp 8) (by rfl) g4 (by rfl) (B32 (bdig b)) _ (hK.at g4 (B32 (bdig b)) 22 (.tail _ (.tail _ (.head _)))) Tryd.underlying22 (by rfl) (B32_info _) ?_
    | refine wpList_load_own (by rfl) 22 (.tmp 7) (by rfl) g3 (by rfl) (B32 (bdig a)) _ (hK.at g3 (B32 (bdig a)) 22 (.tail _ (.tail _ (.tail _ (.head _))))) Tryd.underlying22 (by rfl) (B32_info _) ?_)
  refine (F.addA Hb.out Ha.out (Pt.add_comm _ _) Hx.out _ (F.keep _ _ hT hK.2)).mono ?_
  rintro e V9 ⟨rfl, bw⟩
  have hK := hK.below bw
  clear bw
  go_upto_region 4 with (refine wpList_store_new (by rfl) 22 (.tmp 12) (.tmp 42) (by rfl) _ (B32 (bdig x)) (by rfl) (by rfl) (B32_info _) (B32_sizes _ _) (B32_one _) (by rfl) ?_)
  have lt_b7 := (hK.at b7 (B32 (bdig x)) 22 (.head _)).lt
  have lt_g5 := (hK.at g5 (B32 (bdig c)) 22 (.tail _ (.head _))).lt
  have lt_g4 := (hK.at g4 (B32 (bdig b)) 22 (.tail _ (.tail _ (.head _)))).lt
  have lt_g3 := (hK.at g3 (B32 (bdig a)) 22 (.tail _ (.tail _ (.tail _ (.head _))))).lt
  have lt_bK := (hK.at bK (B32 (bdig k)) 22 (.tail _ (.tail _ (.tail _ (.tail _ (.head _)))))).lt
  have lt_bM := (hK.at bM (B32 (bdig m)) 22 (.tail _ (.tail _ (.tail _ (.tail _ (.tail _ (.head _))))))).lt
  have lt_bN := (hK.at bN (B32 (bdig n)) 22 (.tail _ (.tail _ (.tail _ (.tail _ (.tail _ (.tail _ (.head _)))))))).lt
  have le_b10 := show Hid _ from hK.2.size
  have hK := hK.alloc (B32 (bdig x)) 22
  generalize V9.alloc (.cells (B32 (bdig x)) 22) = V11 at *
  obtain ⟨b10, Hb10⟩ : ∃ b, Hid (V9.heap.size = b) := ⟨_, rfl⟩
  have ne_b7_b10 : Hid (b7 ≠ b10) := by show _ ≠ _; rw [← Hb10.out]; exact Nat.ne_of_lt lt_b7
  have ne_g5_b10 : Hid (g5 ≠ b10) := by show _ ≠ _; rw [← Hb10.out]; exact Nat.ne_of_lt lt_g5
  have ne_g4_b10 : Hid (g4 ≠ b10) := by show _ ≠ _; rw [← Hb10.out]; exact Nat.ne_of_lt lt_g4
  have ne_g3_b10 : Hid (g3 ≠ b10) := by show _ ≠ _; rw [← Hb10.out]; exact Nat.ne_of_lt lt_g3
  have ne_bK_b10 : Hid (bK ≠ b10) := by show _ ≠ _; rw [← Hb10.out]; exact Nat.ne_of_lt lt_bK
  have ne_bM_b10 : Hid (bM ≠ b10) := by show _ ≠ _; rw [← Hb10.out]; exact Nat.ne_of_lt lt_bM
  have ne_bN_b10 : Hid (bN ≠ b10) := by show _ ≠ _; rw [← Hb10.out]; exact Nat.ne_of_lt lt_bN
  have le_b10 : Hid (w.heap.size ≤ b10) := by show _ ≤ _; rw [← Hb10.out]; exact le_b10.out
  rw [Hb10.out] at hK ⊢
  clear lt_b7 lt_g5 lt_g4 lt_g3 lt_bK lt_bM lt_bN
  go_wp2_with (first
    | refine wpList_load_own (by rfl) 22 (.tmp 10) (by rfl) b7 (by rfl) (B32 (bdig x)) _ (hK.at b7 (B32 (bdig x)) 22 (.tail _ (.head _))) Tryd.underlying22 (by rfl) (B32_info _) ?_
    | refine wpList_load_own (by rfl) 22 (.tmp 9) (by rfl) g5 (by rfl) (B32 (bdig c)) _ (hK.at g5 (B32 (bdig c)) 22 (.tail _ (.tail _ (.head _)))) Tryd.underlying22 (by rfl) (B32_info _) ?_)
  refine (F.addA Hx.out Hc.out rfl Hz.out _ (F.keep _ _ hT hK.2)).mono ?_
  rintro e V12 ⟨rfl, bw⟩
  have hK := hK.below bw
  clear bw
  go_upto_region 5 with (refine wpList_store_new (by rfl) 22 (.tmp 14) (.tmp 48) (by rfl) _ (B32 (bdig z)) (by rfl) (by rfl) (B32_info _) (B32_sizes _ _) (B32_one _) (by rfl) ?_)
  have lt_b10 := (hK.at b10 (B32 (bdig x)) 22 (.head _)).lt
  have lt_b7 := (hK.at b7 (B32 (bdig x)) 22 (.tail _ (.head _))).lt
  have lt_g5 := (hK.at g5 (B32 (bdig c)) 22 (.tail _ (.tail _ (.head _)))).lt
  have lt_g4 := (hK.at g4 (B32 (bdig b)) 22 (.tail _ (.tail _ (.tail _ (.head _))))).lt
  have lt_g3 := (hK.at g3 (B32 (bdig a)) 22 (.tail _ (.tail _ (.tail _ (.tail _ (.head _)))))).lt
  have lt_bK := (hK.at bK (B32 (bdig k)) 22 (.tail _ (.tail _ (.tail _ (.tail _ (.tail _ (.head _))))))).lt
  have lt_bM := (hK.at bM (B32 (bdig m)) 22 (.tail _ (.tail _ (.tail _ (.tail _ (.tail _ (.tail _ (.head _)))))))).lt
  have lt_bN := (hK.at bN (B32 (bdig n)) 22 (.tail _ (.tail _ (.tail _ (.tail _ (.tail _ (.tail _ (.tail _ (.head _))))))))).lt
  have le_b13 := show Hid _ from hK.2.size
  have hK := hK.alloc (B32 (bdig z)) 22
  generalize V12.alloc (.cells (B32 (bdig z)) 22) = V14 at *
  obtain ⟨b13, Hb13⟩ : ∃ b, Hid (V12.heap.size = b) := ⟨_, rfl⟩
  have ne_b10_b13 : Hid (b10 ≠ b13) := by show _ ≠ _; rw [← Hb13.out]; exact Nat.ne_of_lt lt_b10
  have ne_b7_b13 : Hid (b7 ≠ b13) := by show _ ≠ _; rw [← Hb13.out]; exact Nat.ne_of_lt lt_b7
  have ne_g5_b13 : Hid (g5 ≠ b13) := by show _ ≠ _; rw [← Hb13.out]; exact Nat.ne_of_lt lt_g5
  have ne_g4_b13 : Hid (g4 ≠ b13) := by show _ ≠ _; rw [← Hb13.out]; exact Nat.ne_of_lt lt_g4
  have ne_g3_b13 : Hid (g3 ≠ b13) := by show _ ≠ _; rw [← Hb13.out]; exact Nat.ne_of_lt lt_g3
  have ne_bK_b13 : Hid (bK ≠ b13) := by show _ ≠ _; rw [← Hb13.out]; exact Nat.ne_of_lt lt_bK
  have ne_bM_b13 : Hid (bM ≠ b13) := by show _ ≠ _; rw [← Hb13.out]; exact Nat.ne_of_lt lt_bM
  have ne_bN_b13 : Hid (bN ≠ b13) := by show _ ≠ _; rw [← Hb13.out]; exact Nat.ne_of_lt lt_bN
  have le_b13 : Hid (w.heap.size ≤ b13) := by show _ ≤ _; rw [← Hb13.out]; exact le_b13.out
  rw [Hb13.out] at hK ⊢
  clear lt_b10 lt_b7 lt_g5 lt_g4 lt_g3 lt_bK lt_bM lt_bN
  go_wp2_with (first
    | refine wpList_load_own (by rfl) 22 (.tmp 8) (by rfl) g4 (by rfl) (B32 (bdig b)) _ (hK.at g4 (B32 (bdig b)) 22 (.tail _ (.tail _ (.tail _ (.tail _ (.head _)))))) Tryd.underlying22 (by rfl) (B32_info _) ?_
    | refine wpList_load_own (by rfl) 22 (.tmp 9) (by rfl) g5 (by rfl) (B32 (bdig c)) _ (hK.at g5 (B32 (bdig c)) 22 (.tail _ (.tail _ (.tail _ (.head _))))) Tryd.underlying22 (by rfl) (B32_info _) ?_)
  refine (F.addA Hb.out Hc.out rfl Hu.out _ (F.keep _ _ hT hK.2)).mono ?_
  rintro e V15 ⟨rfl, bw⟩
  have hK := hK.below bw
  clear bw
  go_upto_region 6 with (refine wpList_store_new (by rfl) 22 (.tmp 16) (.tmp 54) (by rfl) _ (B32 (bdig u)) (by rfl) (by rfl) (B32_info _) (B32_sizes _ _) (B32_one _) (by rfl) ?_)
  have lt_b13 := (hK.at b13 (B32 (bdig z)) 22 (.head _)).lt
  have lt_b10 := (hK.at b10 (B32 (bdig x)) 22 (.tail _ (.head _))).lt
  have lt_b7 := (hK.at b7 (B32 (bdig x)) 22 (.tail _ (.tail _ (.head _)))).lt
  have lt_g5 := (hK.at g5 (B32 (bdig c)) 22 (.tail _ (.tail _ (.tail _ (.head _))))).lt
  have lt_g4 := (hK.at g4 (B32 (bdig b)) 22 (.tail _ (.tail _ (.tail _ (.tail _ (.head _)))))).lt
  have lt_g3 := (hK.at g3 (B32 (bdig a)) 22 (.tail _ (.tail _ (.tail _ (.tail _ (.tail _ (.head _))))))).lt
  have lt_bK := (hK.at bK (B32 (bdig k)) 22 (.tail _ (.tail _ (.tail _ (.tail _ (.tail _ (.tail _ (.head _)))))))).lt
  have lt_bM := (hK.at bM (B32 (bdig m)) 22 (.tail _ (.tail _ (.tail _ (.tail _ (.tail _ (.tail _ (.tail _ (.head _))))))))).lt
  have lt_bN := (hK.at bN (B32 (bdig n)) 22 (.tail _ (.tail _ (.tail _ (.tail _ (.tail _ (.tail _ (.tail _ (.tail _ (.head _)))))))))).lt
  have le_b16 := show Hid _ from hK.2.size
  have hK := hK.alloc (B32 (bdig u)) 22
  generalize V15.alloc (.cells (B32 (bdig u)) 22) = V17 at *
  obtain ⟨b16, Hb16⟩ : ∃ b, Hid (V15.heap.size = b) := ⟨_, rfl⟩
  have ne_b13_b16 : Hid (b13 ≠ b16) := by show _ ≠ _; rw [← Hb16.out]; exact Nat.ne_of_lt lt_b13
  have ne_b10_b16 : Hid (b10 ≠ b16) := by show _ ≠ _; rw [← Hb16.out]; exact Nat.ne_of_lt lt_b10
  have ne_b7_b16 : Hid (b7 ≠ b16) := by show _ ≠ _; rw [← Hb16.out]; exact Nat.ne_of_lt lt_b7
  have ne_g5_b16 : Hid (g5 ≠ b16) := by show _ ≠ _; rw [← Hb16.out]; exact Nat.ne_of_lt lt_g5
  have ne_g4_b16 : Hid (g4 ≠ b16) := by show _ ≠ _; rw [← Hb16.out]; exact Nat.ne_of_lt lt_g4
  have ne_g3_b16 : Hid (g3 ≠ b16) := by show _ ≠ _; rw [← Hb16.out]; exact Nat.ne_of_lt lt_g3
  have ne_bK_b16 : Hid (bK ≠ b16) := by show _ ≠ _; rw [← Hb16.out]; exact Nat.ne_of_lt lt_bK
  have ne_bM_b16 : Hid (bM ≠ b16) := by show _ ≠ _; rw [← Hb16.out]; exact Nat.ne_of_lt lt_bM
  have ne_bN_b16 : Hid (bN ≠ b16) := by show _ ≠ _; rw [← Hb16.out]; exact Nat.ne_of_lt lt_bN
  have le_b16 : Hid (w.heap.size ≤ b16) := by show _ ≤ _; rw [← Hb16.out]; exact le_b16.out
  rw [Hb16.out] at hK ⊢
  clear lt_b13 lt_b10 lt_b7 lt_g5 lt_g4 lt_g3 lt_bK lt_bM lt_bN
  go_wp2_with (first
    | refine wpList_load_own (by rfl) 22 (.tmp 7) (by rfl) g3 (by rfl) (B32 (bdig a)) _ (hK.at g3 (B32 (bdig a)) 22 (.tail _ (.tail _ (.tail _ (.tail _ (.tail _ (.tail _ (.head _)))))))) Tryd.underlying22 (by rfl) (B32_info _) ?_
    | refine wpList_load_own (by rfl) 22 (.tmp 16) (by rfl) b16 (by rfl) (B32 (bdig u)) _ (hK.at b16 (B32 (bdig u)) 22 (.head _)) Tryd.underlying22 (by rfl) (B32_info _) ?_)
  refine (F.addA Ha.out Hu.out (Pt.add_assoc _ _ _).symm Hz.out _ (F.keep _ _ hT hK.2)).mono ?_
  rintro e V18 ⟨rfl, bw⟩
  have hK := hK.below bw
  clear bw
  go_upto_region 7 with (refine wpList_store_new (by rfl) 22 (.tmp 18) (.tmp 60) (by rfl) _ (B32 (bdig z)) (by rfl) (by rfl) (B32_info _) (B32_sizes _ _) (B32_one _) (by rfl) ?_)
  have lt_b16 := (hK.at b16 (B32 (bdig u)) 22 (.head _)).lt
  have lt_b13 := (hK.at b13 (B32 (bdig z)) 22 (.tail _ (.head _))).lt
  have lt_b10 := (hK.at b10 (B32 (bdig x)) 22 (.tail _ (.tail _ (.head _)))).lt
  have lt_b7 := (hK.at b7 (B32 (bdig x)) 22 (.tail _ (.tail _ (.tail _ (.head _))))).lt
  have lt_g5 := (hK.at g5 (B32 (bdig c)) 22 (.tail _ (.tail _ (.tail _ (.tail _ (.head _)))))).lt
  have lt_g4 := (hK.at g4 (B32 (bdig b)) 22 (.tail _ (.tail _ (.tail _ (.tail _ (.tail _ (.head _))))))).lt
  have lt_g3 := (hK.at g3 (B32 (bdig a)) 22 (.tail _ (.tail _ (.tail _ (.tail _ (.tail _ (.tail _ (.head _)))))))).lt
  have lt_bK := (hK.at bK (B32 (bdig k)) 22 (.tail _ (.tail _ (.tail _ (.tail _ (.tail _ (.tail _ (.tail _ (.head _))))))))).lt
  have lt_bM := (hK.at bM (B32 (bdig m)) 22 (.tail _ (.tail _ (.tail _ (.tail _ (.tail _ (.tail _ (.tail _ (.tail _ (.head _)))))))))).lt
  have lt_bN := (hK.at bN (B32 (bdig n)) 22 (.tail _ (.tail _ (.tail _ (.tail _ (.tail _ (.tail _ (.tail _ (.tail _ (.tail _ (.head _))))))))))).lt
  have le_b19 := show Hid _ from hK.2.size
  have hK := hK.alloc (B32 (bdig z)) 22
  generalize V18.alloc (.cells (B32 (bdig z)) 22) = V20 at *
  obtain ⟨b19, Hb19⟩ : ∃ b, Hid (V18.heap.size = b) := ⟨_, rfl⟩
  have ne_b16_b19 : Hid (b16 ≠ b19) := by show _ ≠ _; rw [← Hb19.out]; exact Nat.ne_of_lt lt_b16
  have ne_b13_b19 : Hid (b13 ≠ b19) := by show _ ≠ _; rw [← Hb19.out]; exact Nat.ne_of_lt lt_b13
  have ne_b10_b19 : Hid (b10 ≠ b19) := by show _ ≠ _; rw [← Hb19.out]; exact Nat.ne_of_lt lt_b10
  have ne_b7_b19 : Hid (b7 ≠ b19) := by show _ ≠ _; rw [← Hb19.out]; exact Nat.ne_of_lt lt_b7
  have ne_g5_b19 : Hid (g5 ≠ b19) := by show _ ≠ _; rw [← Hb19.out]; exact Nat.ne_of_lt lt_g5
  have ne_g4_b19 : Hid (g4 ≠ b19) := by show _ ≠ _; rw [← Hb19.out]; exact Nat.ne_of_lt lt_g4
  have ne_g3_b19 : Hid (g3 ≠ b19) := by show _ ≠ _; rw [← Hb19.out]; exact Nat.ne_of_lt lt_g3
  have ne_bK_b19 : Hid (bK ≠ b19) := by show _ ≠ _; rw [← Hb19.out]; exact Nat.ne_of_lt lt_bK
  have ne_bM_b19 : Hid (bM ≠ b19) := by show _ ≠ _; rw [← Hb19.out]; exact Nat.ne_of_lt lt_bM
  have ne_bN_b19 : Hid (bN ≠ b19) := by show _ ≠ _; rw [← Hb19.out]; exact Nat.ne_of_lt lt_bN
  have le_b19 : Hid (w.heap.size ≤ b19) := by show _ ≤ _; rw [← Hb19.out]; exact le_b19.out
  rw [Hb19.out] at hK ⊢
  clear lt_b16 lt_b13 lt_b10 lt_b7 lt_g5 lt_g4 lt_g3 lt_bK lt_bM lt_bN
  go_wp2_with (refine wpList_load_own (by rfl) 22 (.tmp 7) (by rfl) g3 (by rfl) (B32 (bdig a)) _ (hK.at g3 (B32 (bdig a)) 22 (.tail _ (.tail _ (.tail _ (.tail _ (.tail _ (.tail _ (.tail _ (.head _))))))))) Tryd.underlying22 (by rfl) (B32_info _) ?_)
  refine (F.negA Ha.out rfl Ho.out _ (F.keep _ _ hT hK.2)).mono ?_
  rintro e V21 ⟨rfl, bw⟩
  have hK := hK.below bw
  clear bw
  go_upto_region 8 with (refine wpList_store_new (by rfl) 22 (.tmp 20) (.tmp 65) (by rfl) _ (B32 (bdig o)) (by rfl) (by rfl) (B32_info _) (B32_sizes _ _) (B32_one _) (by rfl) ?_)
  have lt_b19 := (hK.at b19 (B32 (bdig z)) 22 (.head _)).lt
  have lt_b16 := (hK.at b16 (B32 (bdig u)) 22 (.tail _ (.head _))).lt
  have lt_b13 := (hK.at b13 (B32 (bdig z)) 22 (.tail _ (.tail _ (.head _)))).lt
  have lt_b10 := (hK.at b10 (B32 (bdig x)) 22 (.tail _ (.tail _ (.tail _ (.head _))))).lt
  have lt_b7 := (hK.at b7 (B32 (bdig x)) 22 (.tail _ (.tail _ (.tail _ (.tail _ (.head _)))))).lt
  have lt_g5 := (hK.at g5 (B32 (bdig c)) 22 (.tail _ (.tail _ (.tail _ (.tail _ (.tail _ (.head _))))))).lt
  have lt_g4 := (hK.at g4 (B32 (bdig b)) 22 (.tail _ (.tail _ (.tail _ (.tail _ (.tail _ (.tail _ (.head _)))))))).lt
  have lt_g3 := (hK.at g3 (B32 (bdig a)) 22 (.tail _ (.tail _ (.tail _ (.tail _ (.tail _ (.tail _ (.tail _ (.head _))))))))).lt
  have lt_bK := (hK.at bK (B32 (bdig k)) 22 (.tail _ (.tail _ (.tail _ (.tail _ (.tail _ (.tail _ (.tail _ (.tail _ (.head _)))))))))).lt
  have lt_bM := (hK.at bM (B32 (bdig m)) 22 (.tail _ (.tail _ (.tail _ (.tail _ (.tail _ (.tail _ (.tail _ (.tail _ (.tail _ (.head _))))))))))).lt
  have lt_bN := (hK.at bN (B32 (bdig n)) 22 (.tail _ (.tail _ (.tail _ (.tail _ (.tail _ (.tail _ (.tail _ (.tail _ (.tail _ (.tail _ (.head _)))))))))))).lt
  have le_b22 := show Hid _ from hK.2.size
  have hK := hK.alloc (B32 (bdig o)) 22
  generalize V21.alloc (.cells (B32 (bdig o)) 22) = V23 at *
  obtain ⟨b22, Hb22⟩ : ∃ b, Hid (V21.heap.size = b) := ⟨_, rfl⟩
  have ne_b19_b22 : Hid (b19 ≠ b22) := by show _ ≠ _; rw [← Hb22.out]; exact Nat.ne_of_lt lt_b19
  have ne_b16_b22 : Hid (b16 ≠ b22) := by show _ ≠ _; rw [← Hb22.out]; exact Nat.ne_of_lt lt_b16
  have ne_b13_b22 : Hid (b13 ≠ b22) := by show _ ≠ _; rw [← Hb22.out]; exact Nat.ne_of_lt lt_b13
  have ne_b10_b22 : Hid (b10 ≠ b22) := by show _ ≠ _; rw [← Hb22.out]; exact Nat.ne_of_lt lt_b10
  have ne_b7_b22 : Hid (b7 ≠ b22) := by show _ ≠ _; rw [← Hb22.out]; exact Nat.ne_of_lt lt_b7
  have ne_g5_b22 : Hid (g5 ≠ b22) := by show _ ≠ _; rw [← Hb22.out]; exact Nat.ne_of_lt lt_g5
  have ne_g4_b22 : Hid (g4 ≠ b22) := by show _ ≠ _; rw [← Hb22.out]; exact Nat.ne_of_lt lt_g4
  have ne_g3_b22 : Hid (g3 ≠ b22) := by show _ ≠ _; rw [← Hb22.out]; exact Nat.ne_of_lt lt_g3
  have ne_bK_b22 : Hid (bK ≠ b22) := by show _ ≠ _; rw [← Hb22.out]; exact Nat.ne_of_lt lt_bK
  have ne_bM_b22 : Hid (bM ≠ b22) := by show _ ≠ _; rw [← Hb22.out]; exact Nat.ne_of_lt lt_bM
  have ne_bN_b22 : Hid (bN ≠ b22) := by show _ ≠ _; rw [← Hb22.out]; exact Nat.ne_of_lt lt_bN
  have le_b22 : Hid (w.heap.size ≤ b22) := by show _ ≤ _; rw [← Hb22.out]; exact le_b22.out
  rw [Hb22.out] at hK ⊢
  clear lt_b19 lt_b16 lt_b13 lt_b10 lt_b7 lt_g5 lt_g4 lt_g3 lt_bK lt_bM lt_bN
  go_wp2_with (first
    | refine wpList_load_own (by rfl) 22 (.tmp 7) (by rfl) g3 (by rfl) (B32 (bdig a)) _ (hK.at g3 (B32 (bdig a)) 22 (.tail _ (.tail _ (.tail _ (.tail _ (.tail _ (.tail _ (.tail _ (.tail _ (.head _)))))))))) Tryd.underlying22 (by rfl) (B32_info _) ?_
    | refine wpList_load_own (by rfl) 22 (.tmp 20) (by rfl) b22 (by rfl) (B32 (bdig o)) _ (hK.at b22 (B32 (bdig o)) 22 (.head _)) Tryd.underlying22 (by rfl) (B32_info _) ?_)
  refine (F.addA Ha.out Ho.out (Pt.add_neg _) enc_nought _ (F.keep _ _ hT hK.2)).mono ?_
  rintro e V24 ⟨rfl, bw⟩
  have hK := hK.below bw
  clear bw
  go_upto_region 9 with (refine wpList_store_new (by rfl) 22 (.tmp 22) (.tmp 71) (by rfl) _ (B32 (bdig 1)) (by rfl) (by rfl) (B32_info _) (B32_sizes _ _) (B32_one _) (by rfl) ?_)
  have lt_b22 := (hK.at b22 (B32 (bdig o)) 22 (.head _)).lt
  have lt_b19 := (hK.at b19 (B32 (bdig z)) 22 (.tail _ (.head _))).lt
  have lt_b16 := (hK.at b16 (B32 (bdig u)) 22 (.tail _ (.tail _ (.head _)))).lt
  have lt_b13 := (hK.at b13 (B32 (bdig z)) 22 (.tail _ (.tail _ (.tail _ (.head _))))).lt
  have lt_b10 := (hK.at b10 (B32 (bdig x)) 22 (.tail _ (.tail _ (.tail _ (.tail _ (.head _)))))).lt
  have lt_b7 := (hK.at b7 (B32 (bdig x)) 22 (.tail _ (.tail _ (.tail _ (.tail _ (.tail _ (.head _))))))).lt
  have lt_g5 := (hK.at g5 (B32 (bdig c)) 22 (.tail _ (.tail _ (.tail _ (.tail _ (.tail _ (.tail _ (.head _)))))))).lt
  have lt_g4 := (hK.at g4 (B32 (bdig b)) 22 (.tail _ (.tail _ (.tail _ (.tail _ (.tail _ (.tail _ (.tail _ (.head _))))))))).lt
  have lt_g3 := (hK.at g3 (B32 (bdig a)) 22 (.tail _ (.tail _ (.tail _ (.tail _ (.tail _ (.tail _ (.tail _ (.tail _ (.head _)))))))))).lt
  have lt_bK := (hK.at bK (B32 (bdig k)) 22 (.tail _ (.tail _ (.tail _ (.tail _ (.tail _ (.tail _ (.tail _ (.tail _ (.tail _ (.head _))))))))))).lt
  have lt_bM := (hK.at bM (B32 (bdig m)) 22 (.tail _ (.tail _ (.tail _ (.tail _ (.tail _ (.tail _ (.tail _ (.tail _ (.tail _ (.tail _ (.head _)))))))))))).lt
  have lt_bN := (hK.at bN (B32 (bdig n)) 22 (.tail _ (.tail _ (.tail _ (.tail _ (.tail _ (.tail _ (.tail _ (.tail _ (.tail _ (.tail _ (.tail _ (.head _))))))))))))).lt
  have le_b25 := show Hid _ from hK.2.size
  have hK := hK.alloc (B32 (bdig 1)) 22
  generalize V24.alloc (.cells (B32 (bdig 1)) 22) = V26 at *
  obtain ⟨b25, Hb25⟩ : ∃ b, Hid (V24.heap.size = b) := ⟨_, rfl⟩
  have ne_b22_b25 : Hid (b22 ≠ b25) := by show _ ≠ _; rw [← Hb25.out]; exact Nat.ne_of_lt lt_b22
  have ne_b19_b25 : Hid (b19 ≠ b25) := by show _ ≠ _; rw [← Hb25.out]; exact Nat.ne_of_lt lt_b19
  have ne_b16_b25 : Hid (b16 ≠ b25) := by show _ ≠ _; rw [← Hb25.out]; exact Nat.ne_of_lt lt_b16
  have ne_b13_b25 : Hid (b13 ≠ b25) := by show _ ≠ _; rw [← Hb25.out]; exact Nat.ne_of_lt lt_b13
  have ne_b10_b25 : Hid (b10 ≠ b25) := by show _ ≠ _; rw [← Hb25.out]; exact Nat.ne_of_lt lt_b10
  have ne_b7_b25 : Hid (b7 ≠ b25) := by show _ ≠ _; rw [← Hb25.out]; exact Nat.ne_of_lt lt_b7
  have ne_g5_b25 : Hid (g5 ≠ b25) := by show _ ≠ _; rw [← Hb25.out]; exact Nat.ne_of_lt lt_g5
  have ne_g4_b25 : Hid (g4 ≠ b25) := by show _ ≠ _; rw [← Hb25.out]; exact Nat.ne_of_lt lt_g4
  have ne_g3_b25 : Hid (g3 ≠ b25) := by show _ ≠ _; rw [← Hb25.out]; exact Nat.ne_of_lt lt_g3
  have ne_bK_b25 : Hid (bK ≠ b25) := by show _ ≠ _; rw [← Hb25.out]; exact Nat.ne_of_lt lt_bK
  have ne_bM_b25 : Hid (bM ≠ b25) := by show _ ≠ _; rw [← Hb25.out]; exact Nat.ne_of_lt lt_bM
  have ne_bN_b25 : Hid (bN ≠ b25) := by show _ ≠ _; rw [← Hb25.out]; exact Nat.ne_of_lt lt_bN
  have le_b25 : Hid (w.heap.size ≤ b25) := by show _ ≤ _; rw [← Hb25.out]; exact le_b25.out
  rw [Hb25.out] at hK ⊢
  clear lt_b22 lt_b19 lt_b16 lt_b13 lt_b10 lt_b7 lt_g5 lt_g4 lt_g3 lt_bK lt_bM lt_bN
  refine wp_region_told 141 (by kernel_rfl) (by kernel_rfl) (by rfl) (factGr9 a) (fun L vs => MkN 1 [(b25, B32 (bdig 1), 22), (b22, B32 (bdig o), 22), (b19, B32 (bdig z), 22), (b16, B32 (bdig u), 22), (b13, B32 (bdig z), 22), (b10, B32 (bdig x), 22), (b7, B32 (bdig x), 22), (g5, B32 (bdig c), 22), (g4, B32 (bdig b), 22), (g3, B32 (bdig a), 22), (bK, B32 (bdig k), 22), (bM, B32 (bdig m), 22), (bN, B32 (bdig n), 22)] w (fun _ => B32 fun _ => 0) (fun _ => B32 (bdig a)) (fun _ => 22) (fun i => L (6 + i)) (fun i => L (7 + i)) (fun i => vs (6 + i))) (fun _ => MkN.drew hK (fun _ _ => rfl)) ?_ ?_
  · intro L vs ac wc i o hF hLi ho hd K hK
    rcases i with _ | _ | _ | _ | _ | _ | _ | _ | _ | i
    · have ho' := ho
      obtain rfl := Option.some.inj ho
      have f7 : ac.tmps.getD 7 undef = .pointer (some ⟨g3, 0, none⟩) := slott hF 0 hLi 7 (by kernel_rfl)
      refine step_do ho' (wanted_free rfl) ?_
      exact wp_load_own 22 (.tmp 7) rfl g3 f7 (B32 (bdig a)) _ 22 (hF.j.1.at g3 (B32 (bdig a)) 22 (.tail _ (.tail _ (.tail _ (.tail _ (.tail _ (.tail _ (.tail _ (.tail _ (.tail _ (.head _))))))))))) Tryd.underlying22 rfl (B32_info _) (hK _ _ (.inr rfl) (hF.j.congr (fun i hi => if_off (by decide) hi) (fun i hi => if_off (by decide) hi) (fun i hi => if_off (by decide) hi)))
    · have ho' := ho
      obtain rfl := Option.some.inj ho
      refine step_do ho' (wanted_free rfl) ?_
      unfold Oper.wp
      go_simp
      refine (numc_any 1 (by decide) _).mono ?_
      rintro e w' ⟨rfl, hB⟩
      exact hK _ _ (.inr rfl) ((hF.j.congr (fun i hi => if_off (by decide) hi) (fun i hi => if_off (by decide) hi) (fun i hi => if_off (by decide) hi)).below hB)
    · have ho' := ho
      obtain rfl := Option.some.inj ho
      have f74 : ac.tmps.getD 74 undef = .agg (B32 (bdig a)) := (factt hF hd 0 rfl rfl (by kernel_rfl)).1.trans (factt hF hd 0 rfl rfl (by kernel_rfl)).2
      have f75 : ac.tmps.getD 75 undef = .agg (B32 (bdig 1)) := (factt hF hd 1 rfl rfl (by kernel_rfl)).1.trans (factt hF hd 1 rfl rfl (by kernel_rfl)).2
      refine step_do ho' (wanted_free rfl) ?_
      unfold Oper.wp
      go_simp
      refine (F.addA Ha.out enc_nought (Pt.add_zero _) Ha.out _ (F.keep _ _ hT hF.j.1.2)).mono ?_
      rintro e w' ⟨rfl, hB⟩
      exact hK _ _ (.inr rfl) ((hF.j.congr (fun i hi => if_off (by decide) hi) (fun i hi => if_off (by decide) hi) (fun i hi => if_off (by decide) hi)).below hB)
    · have ho' := ho
      obtain rfl := Option.some.inj ho
      have f76 : ac.tmps.getD 76 undef = .tuple #[.agg (B32 (bdig a)), .int .i64 (0)] := (factt hF hd 2 rfl rfl (by kernel_rfl)).1.trans (factt hF hd 2 rfl rfl (by kernel_rfl)).2
      refine step_do ho' (wanted_free rfl) ?_
      unfold Oper.wp
      go_simp
      exact hK _ _ (.inr rfl) (hF.j.congr (fun i hi => if_off (by decide) hi) (fun i hi => if_off (by decide) hi) (fun i hi => if_off (by decide) hi))
    · have ho' := ho
      obtain rfl := Option.some.inj ho
      have f73 : ac.tmps.getD 73 undef = .tuple #[.agg (B32 (bdig a)), .int .i64 (0)] := (factt hF hd 3 rfl rfl (by kernel_rfl)).1.trans (factt hF hd 3 rfl rfl (by kernel_rfl)).2
      refine step_do ho' (wanted_free rfl) ?_
      unfold Oper.wp
      go_simp
      exact hK _ _ (.inr rfl) (hF.j.congr (fun i hi => if_off (by decide) hi) (fun i hi => if_off (by decide) hi) (fun i hi => if_off (by decide) hi))
    · have ho' := ho
      obtain rfl := Option.some.inj ho
      have f73 : ac.tmps.getD 73 undef = .tuple #[.agg (B32 (bdig a)), .int .i64 (0)] := (factt hF hd 3 rfl rfl (by kernel_rfl)).1.trans (factt hF hd 3 rfl rfl (by kernel_rfl)).2
      refine step_do ho' (wanted_free rfl) ?_
      unfold Oper.wp
      go_simp
      exact hK _ _ (.inr rfl) (hF.j.congr (fun i hi => if_off (by decide) hi) (fun i hi => if_off (by decide) hi) (fun i hi => if_off (by decide) hi))
    · have ho' := ho
      obtain rfl := Option.some.inj ho
      refine step_do ho' (wanted_free rfl) ?_
      have hs := notyett hF 6 hLi 7 rfl (by kernel_rfl)
      unfold Oper.wp
      go_simp
      exact hK _ _ (.inr ⟨_, rfl⟩) (hF.j.alloc 0 (fun i _ hne => if_oth (k := 0) rfl hne) (fun i hi => if_off (by decide) hi) (fun i _ hne => if_oth (k := 0) rfl hne) rfl hs)
    · have ho' := ho
      obtain rfl := Option.some.inj ho
      have f77 : ac.tmps.getD 77 undef = .agg (B32 (bdig a)) := (factt hF hd 4 rfl rfl (by kernel_rfl)).1.trans (factt hF hd 4 rfl rfl (by kernel_rfl)).2
      refine step_do ho' (wanted_free rfl) ?_
      obtain ⟨fg, gq, hg⟩ := factt hF hd 6 rfl rfl (by kernel_rfl)
      have hm := dep hd 6 (by kernel_rfl)
      have hj := hF.j
      rw [hg] at fg
      have hj2 := hj.at (k := 0) (by decide) hm hg hLi
      refine wp_store_own 22 (.tmp 24) (.tmp 77) rfl gq (B32 (bdig a)) fg f77 hj2.2.2 (B32_sizes _ _) (B32_info _) (B32_one _) rfl ?_
      exact hK undef _ (.inl rfl) (hj.store (k := 0) (by decide) hm hg hLi (B32_sizes _ _) (fun i hi => if_off (by decide) hi) (fun i _ hne => if_oth (k := 0) rfl hne) (fun i hi => if_off (by decide) hi) rfl)
    · have ho' := ho
      obtain rfl := Option.some.inj ho
      have f78 : ac.tmps.getD 78 undef = .int .i64 (0) := (factt hF hd 5 rfl rfl (by kernel_rfl)).1.trans (factt hF hd 5 rfl rfl (by kernel_rfl)).2
      refine step_do ho' (wanted_free rfl) ?_
      unfold Oper.wp
      go_simp
      exact hK _ _ (.inr rfl) (hF.j.congr (fun i hi => if_off (by decide) hi) (fun i hi => if_off (by decide) hi) (fun i hi => if_off (by decide) hi))
    · cases ho
  intro L vs V27 hL hJ hf
  obtain ⟨g28, hgg28⟩ := hf 6 _ _ rfl rfl
  obtain ⟨le0, apg28, owng28⟩ := hJ.got (k := 0) (by decide) (hL 6 (by decide)) hgg28 (hL 7 (by decide))
  have le_g28 := show Hid _ from le0
  clear le0
  have hK : Kp [(g28, B32 (bdig a), 22), (b25, B32 (bdig 1), 22), (b22, B32 (bdig o), 22), (b19, B32 (bdig z), 22), (b16, B32 (bdig u), 22), (b13, B32 (bdig z), 22), (b10, B32 (bdig x), 22), (b7, B32 (bdig x), 22), (g5, B32 (bdig c), 22), (g4, B32 (bdig b), 22), (g3, B32 (bdig a), 22), (bK, B32 (bdig k), 22), (bM, B32 (bdig m), 22), (bN, B32 (bdig n), 22)] w V27 := (hJ.1.cons owng28)
  have e0 : vs 0 = _ := hf 0 _ _ rfl rfl
  have e1 : vs 1 = _ := hf 1 _ _ rfl rfl
  have e2 : vs 2 = _ := hf 2 _ _ rfl rfl
  have e3 : vs 3 = _ := hf 3 _ _ rfl rfl
  have e4 : vs 4 = _ := hf 4 _ _ rfl rfl
  have e5 : vs 5 = _ := hf 5 _ _ rfl rfl
  have e8 : vs 8 = _ := hf 8 _ _ rfl rfl
  simp only [putAll, Nat.zero_add, Nat.reduceAdd, e0, e1, e2, e3, e4, e5, e8, hgg28, Act.put, List.setIfInBounds_toArray, List.set_cons_succ, List.set_cons_zero]
  clear hJ hf hL e0 e1 e2 e3 e4 e5 e8 hgg28 apg28 owng28
  go_upto_region 10 with fail
  have hTq := F.keep _ _ hT hK.2
  have hKq := hK
  clear hK
  refine wp_region_stable 141 (by kernel_rfl) (by kernel_rfl) (by rfl) (fun i vv _ => vv = valGr n m a x z s i) (fun _ _ _ _ _ h => h) ?_ ?_
  · intro L ac wc i o hF ho hd
    rcases i with _ | _ | _ | _ | _ | _ | _ | _ | _ | _ | _ | _ | _ | _ | _ | _ | _ | _ | _ | _ | _ | _ | _ | _ | _ | _ | _ | _ | _ | _ | _ | _ | _ | _ | _ | _ | _ | _ | _ | _ | _ | _ | _ | _ | _ | _ | _ | _ | _ | _ | _ | _ | _ | _ | _ | _ | _ | _ | _ | _ | _ | _ | _ | i
    · obtain rfl := Option.some.inj ho
      have f11 : ac.tmps.getD 11 undef = .int .i64 (0) := slot hF 11 (by kernel_rfl)
      refine ⟨wanted_free rfl, fun K hK => ?_⟩
      unfold Oper.wp
      go_simp
      exact hK _ _ (Below.refl _ _) rfl
    · obtain rfl := Option.some.inj ho
      have f79 : ac.tmps.getD 79 undef = .int .i64 (0) := hF.fact 0 _ _ rfl rfl (dep hd 0 (by kernel_rfl))
      refine ⟨wanted_free rfl, fun K hK => ?_⟩
      unfold Oper.wp
      go_simp
      exact hK _ _ (Below.refl _ _) rfl
    · obtain rfl := Option.some.inj ho
      have f80 : ac.tmps.getD 80 undef = .bool true := hF.fact 1 _ _ rfl rfl (dep hd 1 (by kernel_rfl))
      refine ⟨wanted_free rfl, fun K hK => ?_⟩
      unfold Oper.wp
      go_simp
      exact hK _ _ (Below.refl _ _) rfl
    · obtain rfl := Option.some.inj ho
      have f13 : ac.tmps.getD 13 undef = .int .i64 (0) := slot hF 13 (by kernel_rfl)
      have fg : ac.tmps.getD 81 undef = .bool true := hF.fact 2 _ _ rfl rfl (dep hd 2 (by kernel_rfl))
      refine ⟨wanted_true (g := 2) rfl rfl rfl fg, fun K hK => ?_⟩
      unfold Oper.wp
      go_simp
      exact hK _ _ (Below.refl _ _) rfl
    · obtain rfl := Option.some.inj ho
      have f82 : ac.tmps.getD 82 undef = .int .i64 (0) := hF.fact 3 _ _ rfl rfl (dep hd 3 (by kernel_rfl))
      have fg : ac.tmps.getD 81 undef = .bool true := hF.fact 2 _ _ rfl rfl (dep hd 2 (by kernel_rfl))
      refine ⟨wanted_true (g := 2) rfl rfl rfl fg, fun K hK => ?_⟩
      unfold Oper.wp
      go_simp
      exact hK _ _ (Below.refl _ _) rfl
    · obtain rfl := Option.some.inj ho
      have f81 : ac.tmps.getD 81 undef = .bool true := hF.fact 2 _ _ rfl rfl (dep hd 2 (by kernel_rfl))
      have f83 : ac.tmps.getD 83 undef = .bool true := hF.fact 4 _ _ rfl rfl (dep hd 4 (by kernel_rfl))
      refine ⟨wanted_free rfl, fun K hK => ?_⟩
      unfold Oper.wp
      go_simp
      exact hK _ _ (Below.refl _ _) rfl
    · obtain rfl := Option.some.inj ho
      have f84 : ac.tmps.getD 84 undef = .bool true := hF.fact 5 _ _ rfl rfl (dep hd 5 (by kernel_rfl))
      refine ⟨wanted_free rfl, fun K hK => ?_⟩
      unfold Oper.wp
      go_simp
      exact hK _ _ (Below.refl _ _) rfl
    · obtain rfl := Option.some.inj ho
      have f15 : ac.tmps.getD 15 undef = .int .i64 (0) := slot hF 15 (by kernel_rfl)
      have fg : ac.tmps.getD 85 undef = .bool true := hF.fact 6 _ _ rfl rfl (dep hd 6 (by kernel_rfl))
      refine ⟨wanted_true (g := 6) rfl rfl rfl fg, fun K hK => ?_⟩
      unfold Oper.wp
      go_simp
      exact hK _ _ (Below.refl _ _) rfl
    · obtain rfl := Option.some.inj ho
      have f86 : ac.tmps.getD 86 undef = .int .i64 (0) := hF.fact 7 _ _ rfl rfl (dep hd 7 (by kernel_rfl))
      have fg : ac.tmps.getD 85 undef = .bool true := hF.fact 6 _ _ rfl rfl (dep hd 6 (by kernel_rfl))
      refine ⟨wanted_true (g := 6) rfl rfl rfl fg, fun K hK => ?_⟩
      unfold Oper.wp
      go_simp
      exact hK _ _ (Below.refl _ _) rfl
    · obtain rfl := Option.some.inj ho
      have f85 : ac.tmps.getD 85 undef = .bool true := hF.fact 6 _ _ rfl rfl (dep hd 6 (by kernel_rfl))
      have f87 : ac.tmps.getD 87 undef = .bool true := hF.fact 8 _ _ rfl rfl (dep hd 8 (by kernel_rfl))
      refine ⟨wanted_free rfl, fun K hK => ?_⟩
      unfold Oper.wp
      go_simp
      exact hK _ _ (Below.refl _ _) rfl
    · obtain rfl := Option.some.inj ho
      have f88 : ac.tmps.getD 88 undef = .bool true := hF.fact 9 _ _ rfl rfl (dep hd 9 (by kernel_rfl))
      refine ⟨wanted_free rfl, fun K hK => ?_⟩
      unfold Oper.wp
      go_simp
      exact hK _ _ (Below.refl _ _) rfl
    · obtain rfl := Option.some.inj ho
      have f17 : ac.tmps.getD 17 undef = .int .i64 (0) := slot hF 17 (by kernel_rfl)
      have fg : ac.tmps.getD 89 undef = .bool true := hF.fact 10 _ _ rfl rfl (dep hd 10 (by kernel_rfl))
      refine ⟨wanted_true (g := 10) rfl rfl rfl fg, fun K hK => ?_⟩
      unfold Oper.wp
      go_simp
      exact hK _ _ (Below.refl _ _) rfl
    · obtain rfl := Option.some.inj ho
      have f90 : ac.tmps.getD 90 undef = .int .i64 (0) := hF.fact 11 _ _ rfl rfl (dep hd 11 (by kernel_rfl))
      have fg : ac.tmps.getD 89 undef = .bool true := hF.fact 10 _ _ rfl rfl (dep hd 10 (by kernel_rfl))
      refine ⟨wanted_true (g := 10) rfl rfl rfl fg, fun K hK => ?_⟩
      unfold Oper.wp
      go_simp
      exact hK _ _ (Below.refl _ _) rfl
    · obtain rfl := Option.some.inj ho
      have f89 : ac.tmps.getD 89 undef = .bool true := hF.fact 10 _ _ rfl rfl (dep hd 10 (by kernel_rfl))
      have f91 : ac.tmps.getD 91 undef = .bool true := hF.fact 12 _ _ rfl rfl (dep hd 12 (by kernel_rfl))
      refine ⟨wanted_free rfl, fun K hK => ?_⟩
      unfold Oper.wp
      go_simp
      exact hK _ _ (Below.refl _ _) rfl
    · obtain rfl := Option.some.inj ho
      have f92 : ac.tmps.getD 92 undef = .bool true := hF.fact 13 _ _ rfl rfl (dep hd 13 (by kernel_rfl))
      refine ⟨wanted_free rfl, fun K hK => ?_⟩
      unfold Oper.wp
      go_simp
      exact hK _ _ (Below.refl _ _) rfl
    · obtain rfl := Option.some.inj ho
      have f19 : ac.tmps.getD 19 undef = .int .i64 (0) := slot hF 19 (by kernel_rfl)
      have fg : ac.tmps.getD 93 undef = .bool true := hF.fact 14 _ _ rfl rfl (dep hd 14 (by kernel_rfl))
      refine ⟨wanted_true (g := 14) rfl rfl rfl fg, fun K hK => ?_⟩
      unfold Oper.wp
      go_simp
      exact hK _ _ (Below.refl _ _) rfl
    · obtain rfl := Option.some.inj ho
      have f94 : ac.tmps.getD 94 undef = .int .i64 (0) := hF.fact 15 _ _ rfl rfl (dep hd 15 (by kernel_rfl))
      have fg : ac.tmps.getD 93 undef = .bool true := hF.fact 14 _ _ rfl rfl (dep hd 14 (by kernel_rfl))
      refine ⟨wanted_true (g := 14) rfl rfl rfl fg, fun K hK => ?_⟩
      unfold Oper.wp
      go_simp
      exact hK _ _ (Below.refl _ _) rfl
    · obtain rfl := Option.some.inj ho
      have f93 : ac.tmps.getD 93 undef = .bool true := hF.fact 14 _ _ rfl rfl (dep hd 14 (by kernel_rfl))
      have f95 : ac.tmps.getD 95 undef = .bool true := hF.fact 16 _ _ rfl rfl (dep hd 16 (by kernel_rfl))
      refine ⟨wanted_free rfl, fun K hK => ?_⟩
      unfold Oper.wp
      go_simp
      exact hK _ _ (Below.refl _ _) rfl
    · obtain rfl := Option.some.inj ho
      have f96 : ac.tmps.getD 96 undef = .bool true := hF.fact 17 _ _ rfl rfl (dep hd 17 (by kernel_rfl))
      refine ⟨wanted_free rfl, fun K hK => ?_⟩
      unfold Oper.wp
      go_simp
      exact hK _ _ (Below.refl _ _) rfl
    · obtain rfl := Option.some.inj ho
      have f21 : ac.tmps.getD 21 undef = .int .i64 (0) := slot hF 21 (by kernel_rfl)
      have fg : ac.tmps.getD 97 undef = .bool true := hF.fact 18 _ _ rfl rfl (dep hd 18 (by kernel_rfl))
      refine ⟨wanted_true (g := 18) rfl rfl rfl fg, fun K hK => ?_⟩
      unfold Oper.wp
      go_simp
      exact hK _ _ (Below.refl _ _) rfl
    · obtain rfl := Option.some.inj ho
      have f98 : ac.tmps.getD 98 undef = .int .i64 (0) := hF.fact 19 _ _ rfl rfl (dep hd 19 (by kernel_rfl))
      have fg : ac.tmps.getD 97 undef = .bool true := hF.fact 18 _ _ rfl rfl (dep hd 18 (by kernel_rfl))
      refine ⟨wanted_true (g := 18) rfl rfl rfl fg, fun K hK => ?_⟩
      unfold Oper.wp
      go_simp
      exact hK _ _ (Below.refl _ _) rfl
    · obtain rfl := Option.some.inj ho
      have f97 : ac.tmps.getD 97 undef = .bool true := hF.fact 18 _ _ rfl rfl (dep hd 18 (by kernel_rfl))
      have f99 : ac.tmps.getD 99 undef = .bool true := hF.fact 20 _ _ rfl rfl (dep hd 20 (by kernel_rfl))
      refine ⟨wanted_free rfl, fun K hK => ?_⟩
      unfold Oper.wp
      go_simp
      exact hK _ _ (Below.refl _ _) rfl
    · obtain rfl := Option.some.inj ho
      have f100 : ac.tmps.getD 100 undef = .bool true := hF.fact 21 _ _ rfl rfl (dep hd 21 (by kernel_rfl))
      refine ⟨wanted_free rfl, fun K hK => ?_⟩
      unfold Oper.wp
      go_simp
      exact hK _ _ (Below.refl _ _) rfl
    · obtain rfl := Option.some.inj ho
      have f23 : ac.tmps.getD 23 undef = .int .i64 (0) := slot hF 23 (by kernel_rfl)
      have fg : ac.tmps.getD 101 undef = .bool true := hF.fact 22 _ _ rfl rfl (dep hd 22 (by kernel_rfl))
      refine ⟨wanted_true (g := 22) rfl rfl rfl fg, fun K hK => ?_⟩
      unfold Oper.wp
      go_simp
      exact hK _ _ (Below.refl _ _) rfl
    · obtain rfl := Option.some.inj ho
      have f102 : ac.tmps.getD 102 undef = .int .i64 (0) := hF.fact 23 _ _ rfl rfl (dep hd 23 (by kernel_rfl))
      have fg : ac.tmps.getD 101 undef = .bool true := hF.fact 22 _ _ rfl rfl (dep hd 22 (by kernel_rfl))
      refine ⟨wanted_true (g := 22) rfl rfl rfl fg, fun K hK => ?_⟩
      unfold Oper.wp
      go_simp
      exact hK _ _ (Below.refl _ _) rfl
    · obtain rfl := Option.some.inj ho
      have f101 : ac.tmps.getD 101 undef = .bool true := hF.fact 22 _ _ rfl rfl (dep hd 22 (by kernel_rfl))
      have f103 : ac.tmps.getD 103 undef = .bool true := hF.fact 24 _ _ rfl rfl (dep hd 24 (by kernel_rfl))
      refine ⟨wanted_free rfl, fun K hK => ?_⟩
      unfold Oper.wp
      go_simp
      exact hK _ _ (Below.refl _ _) rfl
    · obtain rfl := Option.some.inj ho
      have f104 : ac.tmps.getD 104 undef = .bool true := hF.fact 25 _ _ rfl rfl (dep hd 25 (by kernel_rfl))
      refine ⟨wanted_free rfl, fun K hK => ?_⟩
      unfold Oper.wp
      go_simp
      exact hK _ _ (Below.refl _ _) rfl
    · obtain rfl := Option.some.inj ho
      have f25 : ac.tmps.getD 25 undef = .int .i64 (0) := slot hF 25 (by kernel_rfl)
      have fg : ac.tmps.getD 105 undef = .bool true := hF.fact 26 _ _ rfl rfl (dep hd 26 (by kernel_rfl))
      refine ⟨wanted_true (g := 26) rfl rfl rfl fg, fun K hK => ?_⟩
      unfold Oper.wp
      go_simp
      exact hK _ _ (Below.refl _ _) rfl
    · obtain rfl := Option.some.inj ho
      have f106 : ac.tmps.getD 106 undef = .int .i64 (0) := hF.fact 27 _ _ rfl rfl (dep hd 27 (by kernel_rfl))
      have fg : ac.tmps.getD 105 undef = .bool true := hF.fact 26 _ _ rfl rfl (dep hd 26 (by kernel_rfl))
      refine ⟨wanted_true (g := 26) rfl rfl rfl fg, fun K hK => ?_⟩
      unfold Oper.wp
      go_simp
      exact hK _ _ (Below.refl _ _) rfl
    · obtain rfl := Option.some.inj ho
      have f105 : ac.tmps.getD 105 undef = .bool true := hF.fact 26 _ _ rfl rfl (dep hd 26 (by kernel_rfl))
      have f107 : ac.tmps.getD 107 undef = .bool true := hF.fact 28 _ _ rfl rfl (dep hd 28 (by kernel_rfl))
      refine ⟨wanted_free rfl, fun K hK => ?_⟩
      unfold Oper.wp
      go_simp
      exact hK _ _ (Below.refl _ _) rfl
    · obtain rfl := Option.some.inj ho
      have f108 : ac.tmps.getD 108 undef = .bool true := hF.fact 29 _ _ rfl rfl (dep hd 29 (by kernel_rfl))
      refine ⟨wanted_free rfl, fun K hK => ?_⟩
      unfold Oper.wp
      go_simp
      exact hK _ _ (Below.refl _ _) rfl
    · obtain rfl := Option.some.inj ho
      have f10 : ac.tmps.getD 10 undef = .pointer (some ⟨b7, 0, none⟩) := slot hF 10 (by kernel_rfl)
      have fg : ac.tmps.getD 109 undef = .bool true := hF.fact 30 _ _ rfl rfl (dep hd 30 (by kernel_rfl))
      refine ⟨wanted_true (g := 30) rfl rfl rfl fg, fun K hK => ?_⟩
      exact wp_load_own 22 (.tmp 10) rfl b7 f10 (B32 (bdig x)) _ 22 ((hKq.below hF.cls).at b7 (B32 (bdig x)) 22 (by simp)) Tryd.underlying22 rfl (B32_info _) (hK _ _ (Below.refl _ _) rfl)
    · obtain rfl := Option.some.inj ho
      have f12 : ac.tmps.getD 12 undef = .pointer (some ⟨b10, 0, none⟩) := slot hF 12 (by kernel_rfl)
      have fg : ac.tmps.getD 109 undef = .bool true := hF.fact 30 _ _ rfl rfl (dep hd 30 (by kernel_rfl))
      refine ⟨wanted_true (g := 30) rfl rfl rfl fg, fun K hK => ?_⟩
      exact wp_load_own 22 (.tmp 12) rfl b10 f12 (B32 (bdig x)) _ 22 ((hKq.below hF.cls).at b10 (B32 (bdig x)) 22 (by simp)) Tryd.underlying22 rfl (B32_info _) (hK _ _ (Below.refl _ _) rfl)
    · obtain rfl := Option.some.inj ho
      have f110 : ac.tmps.getD 110 undef = .agg (B32 (bdig x)) := hF.fact 31 _ _ rfl rfl (dep hd 31 (by kernel_rfl))
      have f111 : ac.tmps.getD 111 undef = .agg (B32 (bdig x)) := hF.fact 32 _ _ rfl rfl (dep hd 32 (by kernel_rfl))
      have fg : ac.tmps.getD 109 undef = .bool true := hF.fact 30 _ _ rfl rfl (dep hd 30 (by kernel_rfl))
      refine ⟨wanted_true (g := 30) rfl rfl rfl fg, fun K hK => ?_⟩
      unfold Oper.wp
      go_simp
      exact hK _ _ (Below.refl _ _) rfl
    · obtain rfl := Option.some.inj ho
      have f109 : ac.tmps.getD 109 undef = .bool true := hF.fact 30 _ _ rfl rfl (dep hd 30 (by kernel_rfl))
      have f112 : ac.tmps.getD 112 undef = .bool true := hF.fact 33 _ _ rfl rfl (dep hd 33 (by kernel_rfl))
      refine ⟨wanted_free rfl, fun K hK => ?_⟩
      unfold Oper.wp
      go_simp
      exact hK _ _ (Below.refl _ _) rfl
    · obtain rfl := Option.some.inj ho
      have f113 : ac.tmps.getD 113 undef = .bool true := hF.fact 34 _ _ rfl rfl (dep hd 34 (by kernel_rfl))
      refine ⟨wanted_free rfl, fun K hK => ?_⟩
      unfold Oper.wp
      go_simp
      exact hK _ _ (Below.refl _ _) rfl
    · obtain rfl := Option.some.inj ho
      have f14 : ac.tmps.getD 14 undef = .pointer (some ⟨b13, 0, none⟩) := slot hF 14 (by kernel_rfl)
      have fg : ac.tmps.getD 114 undef = .bool true := hF.fact 35 _ _ rfl rfl (dep hd 35 (by kernel_rfl))
      refine ⟨wanted_true (g := 35) rfl rfl rfl fg, fun K hK => ?_⟩
      exact wp_load_own 22 (.tmp 14) rfl b13 f14 (B32 (bdig z)) _ 22 ((hKq.below hF.cls).at b13 (B32 (bdig z)) 22 (by simp)) Tryd.underlying22 rfl (B32_info _) (hK _ _ (Below.refl _ _) rfl)
    · obtain rfl := Option.some.inj ho
      have f18 : ac.tmps.getD 18 undef = .pointer (some ⟨b19, 0, none⟩) := slot hF 18 (by kernel_rfl)
      have fg : ac.tmps.getD 114 undef = .bool true := hF.fact 35 _ _ rfl rfl (dep hd 35 (by kernel_rfl))
      refine ⟨wanted_true (g := 35) rfl rfl rfl fg, fun K hK => ?_⟩
      exact wp_load_own 22 (.tmp 18) rfl b19 f18 (B32 (bdig z)) _ 22 ((hKq.below hF.cls).at b19 (B32 (bdig z)) 22 (by simp)) Tryd.underlying22 rfl (B32_info _) (hK _ _ (Below.refl _ _) rfl)
    · obtain rfl := Option.some.inj ho
      have f115 : ac.tmps.getD 115 undef = .agg (B32 (bdig z)) := hF.fact 36 _ _ rfl rfl (dep hd 36 (by kernel_rfl))
      have f116 : ac.tmps.getD 116 undef = .agg (B32 (bdig z)) := hF.fact 37 _ _ rfl rfl (dep hd 37 (by kernel_rfl))
      have fg : ac.tmps.getD 114 undef = .bool true := hF.fact 35 _ _ rfl rfl (dep hd 35 (by kernel_rfl))
      refine ⟨wanted_true (g := 35) rfl rfl rfl fg, fun K hK => ?_⟩
      unfold Oper.wp
      go_simp
      exact hK _ _ (Below.refl _ _) rfl
    · obtain rfl := Option.some.inj ho
      have f114 : ac.tmps.getD 114 undef = .bool true := hF.fact 35 _ _ rfl rfl (dep hd 35 (by kernel_rfl))
      have f117 : ac.tmps.getD 117 undef = .bool true := hF.fact 38 _ _ rfl rfl (dep hd 38 (by kernel_rfl))
      refine ⟨wanted_free rfl, fun K hK => ?_⟩
      unfold Oper.wp
      go_simp
      exact hK _ _ (Below.refl _ _) rfl
    · obtain rfl := Option.some.inj ho
      have f118 : ac.tmps.getD 118 undef = .bool true := hF.fact 39 _ _ rfl rfl (dep hd 39 (by kernel_rfl))
      refine ⟨wanted_free rfl, fun K hK => ?_⟩
      unfold Oper.wp
      go_simp
      exact hK _ _ (Below.refl _ _) rfl
    · obtain rfl := Option.some.inj ho
      have f22 : ac.tmps.getD 22 undef = .pointer (some ⟨b25, 0, none⟩) := slot hF 22 (by kernel_rfl)
      have fg : ac.tmps.getD 119 undef = .bool true := hF.fact 40 _ _ rfl rfl (dep hd 40 (by kernel_rfl))
      refine ⟨wanted_true (g := 40) rfl rfl rfl fg, fun K hK => ?_⟩
      exact wp_load_own 22 (.tmp 22) rfl b25 f22 (B32 (bdig 1)) _ 22 ((hKq.below hF.cls).at b25 (B32 (bdig 1)) 22 (by simp)) Tryd.underlying22 rfl (B32_info _) (hK _ _ (Below.refl _ _) rfl)
    · obtain rfl := Option.some.inj ho
      have fg : ac.tmps.getD 119 undef = .bool true := hF.fact 40 _ _ rfl rfl (dep hd 40 (by kernel_rfl))
      refine ⟨wanted_true (g := 40) rfl rfl rfl fg, fun K hK => ?_⟩
      unfold Oper.wp
      go_simp
      refine (numc_any 1 (by decide) _).mono ?_
      rintro e w' ⟨rfl, hB⟩
      exact hK _ _ hB rfl
    · obtain rfl := Option.some.inj ho
      have f120 : ac.tmps.getD 120 undef = .agg (B32 (bdig 1)) := hF.fact 41 _ _ rfl rfl (dep hd 41 (by kernel_rfl))
      have f121 : ac.tmps.getD 121 undef = .agg (B32 (bdig 1)) := hF.fact 42 _ _ rfl rfl (dep hd 42 (by kernel_rfl))
      have fg : ac.tmps.getD 119 undef = .bool true := hF.fact 40 _ _ rfl rfl (dep hd 40 (by kernel_rfl))
      refine ⟨wanted_true (g := 40) rfl rfl rfl fg, fun K hK => ?_⟩
      unfold Oper.wp
      go_simp
      exact hK _ _ (Below.refl _ _) rfl
    · obtain rfl := Option.some.inj ho
      have f119 : ac.tmps.getD 119 undef = .bool true := hF.fact 40 _ _ rfl rfl (dep hd 40 (by kernel_rfl))
      have f122 : ac.tmps.getD 122 undef = .bool true := hF.fact 43 _ _ rfl rfl (dep hd 43 (by kernel_rfl))
      refine ⟨wanted_free rfl, fun K hK => ?_⟩
      unfold Oper.wp
      go_simp
      exact hK _ _ (Below.refl _ _) rfl
    · obtain rfl := Option.some.inj ho
      have f123 : ac.tmps.getD 123 undef = .bool true := hF.fact 44 _ _ rfl rfl (dep hd 44 (by kernel_rfl))
      refine ⟨wanted_free rfl, fun K hK => ?_⟩
      unfold Oper.wp
      go_simp
      exact hK _ _ (Below.refl _ _) rfl
    · obtain rfl := Option.some.inj ho
      have f24 : ac.tmps.getD 24 undef = .pointer (some ⟨g28, 0, none⟩) := slot hF 24 (by kernel_rfl)
      have fg : ac.tmps.getD 124 undef = .bool true := hF.fact 45 _ _ rfl rfl (dep hd 45 (by kernel_rfl))
      refine ⟨wanted_true (g := 45) rfl rfl rfl fg, fun K hK => ?_⟩
      exact wp_load_own 22 (.tmp 24) rfl g28 f24 (B32 (bdig a)) _ 22 ((hKq.below hF.cls).at g28 (B32 (bdig a)) 22 (by simp)) Tryd.underlying22 rfl (B32_info _) (hK _ _ (Below.refl _ _) rfl)
    · obtain rfl := Option.some.inj ho
      have f7 : ac.tmps.getD 7 undef = .pointer (some ⟨g3, 0, none⟩) := slot hF 7 (by kernel_rfl)
      have fg : ac.tmps.getD 124 undef = .bool true := hF.fact 45 _ _ rfl rfl (dep hd 45 (by kernel_rfl))
      refine ⟨wanted_true (g := 45) rfl rfl rfl fg, fun K hK => ?_⟩
      exact wp_load_own 22 (.tmp 7) rfl g3 f7 (B32 (bdig a)) _ 22 ((hKq.below hF.cls).at g3 (B32 (bdig a)) 22 (by simp)) Tryd.underlying22 rfl (B32_info _) (hK _ _ (Below.refl _ _) rfl)
    · obtain rfl := Option.some.inj ho
      have f125 : ac.tmps.getD 125 undef = .agg (B32 (bdig a)) := hF.fact 46 _ _ rfl rfl (dep hd 46 (by kernel_rfl))
      have f126 : ac.tmps.getD 126 undef = .agg (B32 (bdig a)) := hF.fact 47 _ _ rfl rfl (dep hd 47 (by kernel_rfl))
      have fg : ac.tmps.getD 124 undef = .bool true := hF.fact 45 _ _ rfl rfl (dep hd 45 (by kernel_rfl))
      refine ⟨wanted_true (g := 45) rfl rfl rfl fg, fun K hK => ?_⟩
      unfold Oper.wp
      go_simp
      exact hK _ _ (Below.refl _ _) rfl
    · obtain rfl := Option.some.inj ho
      have f124 : ac.tmps.getD 124 undef = .bool true := hF.fact 45 _ _ rfl rfl (dep hd 45 (by kernel_rfl))
      have f127 : ac.tmps.getD 127 undef = .bool true := hF.fact 48 _ _ rfl rfl (dep hd 48 (by kernel_rfl))
      refine ⟨wanted_free rfl, fun K hK => ?_⟩
      unfold Oper.wp
      go_simp
      exact hK _ _ (Below.refl _ _) rfl
    · obtain rfl := Option.some.inj ho
      have f128 : ac.tmps.getD 128 undef = .bool true := hF.fact 49 _ _ rfl rfl (dep hd 49 (by kernel_rfl))
      refine ⟨wanted_free rfl, fun K hK => ?_⟩
      unfold Oper.wp
      go_simp
      exact hK _ _ (Below.refl _ _) rfl
    · obtain rfl := Option.some.inj ho
      have f3 : ac.tmps.getD 3 undef = .pointer (some ⟨bN, 0, none⟩) := slot hF 3 (by kernel_rfl)
      have fg : ac.tmps.getD 129 undef = .bool true := hF.fact 50 _ _ rfl rfl (dep hd 50 (by kernel_rfl))
      refine ⟨wanted_true (g := 50) rfl rfl rfl fg, fun K hK => ?_⟩
      exact wp_load_own 22 (.tmp 3) rfl bN f3 (B32 (bdig n)) _ 22 ((hKq.below hF.cls).at bN (B32 (bdig n)) 22 (by simp)) Tryd.underlying22 rfl (B32_info _) (hK _ _ (Below.refl _ _) rfl)
    · obtain rfl := Option.some.inj ho
      have fg : ac.tmps.getD 129 undef = .bool true := hF.fact 50 _ _ rfl rfl (dep hd 50 (by kernel_rfl))
      refine ⟨wanted_true (g := 50) rfl rfl rfl fg, fun K hK => ?_⟩
      unfold Oper.wp
      go_simp
      refine (numc_any 1 (by decide) _).mono ?_
      rintro e w' ⟨rfl, hB⟩
      exact hK _ _ hB rfl
    · obtain rfl := Option.some.inj ho
      have f4 : ac.tmps.getD 4 undef = .pointer (some ⟨bM, 0, none⟩) := slot hF 4 (by kernel_rfl)
      have fg : ac.tmps.getD 129 undef = .bool true := hF.fact 50 _ _ rfl rfl (dep hd 50 (by kernel_rfl))
      refine ⟨wanted_true (g := 50) rfl rfl rfl fg, fun K hK => ?_⟩
      exact wp_load_own 22 (.tmp 4) rfl bM f4 (B32 (bdig m)) _ 22 ((hKq.below hF.cls).at bM (B32 (bdig m)) 22 (by simp)) Tryd.underlying22 rfl (B32_info _) (hK _ _ (Below.refl _ _) rfl)
    · obtain rfl := Option.some.inj ho
      have f130 : ac.tmps.getD 130 undef = .agg (B32 (bdig n)) := hF.fact 51 _ _ rfl rfl (dep hd 51 (by kernel_rfl))
      have f131 : ac.tmps.getD 131 undef = .agg (B32 (bdig 1)) := hF.fact 52 _ _ rfl rfl (dep hd 52 (by kernel_rfl))
      have f132 : ac.tmps.getD 132 undef = .agg (B32 (bdig m)) := hF.fact 53 _ _ rfl rfl (dep hd 53 (by kernel_rfl))
      have fg : ac.tmps.getD 129 undef = .bool true := hF.fact 50 _ _ rfl rfl (dep hd 50 (by kernel_rfl))
      refine ⟨wanted_true (g := 50) rfl rfl rfl fg, fun K hK => ?_⟩
      unfold Oper.wp
      go_simp
      refine (muladd_at hn.out (by decide) hm.out Hs.out _).mono ?_
      rintro e w' ⟨rfl, hB⟩
      exact hK _ _ hB rfl
    · obtain rfl := Option.some.inj ho
      have f133 : ac.tmps.getD 133 undef = .agg (B32 (bdig s)) := hF.fact 54 _ _ rfl rfl (dep hd 54 (by kernel_rfl))
      have fg : ac.tmps.getD 129 undef = .bool true := hF.fact 50 _ _ rfl rfl (dep hd 50 (by kernel_rfl))
      refine ⟨wanted_true (g := 50) rfl rfl rfl fg, fun K hK => ?_⟩
      unfold Oper.wp
      go_simp
      refine (F.baseA hs.out Hbs.out _ (F.keep _ _ hTq hF.cls)).mono ?_
      rintro e w' ⟨rfl, hB⟩
      exact hK _ _ hB rfl
    · obtain rfl := Option.some.inj ho
      have f10 : ac.tmps.getD 10 undef = .pointer (some ⟨b7, 0, none⟩) := slot hF 10 (by kernel_rfl)
      have fg : ac.tmps.getD 129 undef = .bool true := hF.fact 50 _ _ rfl rfl (dep hd 50 (by kernel_rfl))
      refine ⟨wanted_true (g := 50) rfl rfl rfl fg, fun K hK => ?_⟩
      exact wp_load_own 22 (.tmp 10) rfl b7 f10 (B32 (bdig x)) _ 22 ((hKq.below hF.cls).at b7 (B32 (bdig x)) 22 (by simp)) Tryd.underlying22 rfl (B32_info _) (hK _ _ (Below.refl _ _) rfl)
    · obtain rfl := Option.some.inj ho
      have f134 : ac.tmps.getD 134 undef = .agg (B32 (bdig x)) := hF.fact 55 _ _ rfl rfl (dep hd 55 (by kernel_rfl))
      have f135 : ac.tmps.getD 135 undef = .agg (B32 (bdig x)) := hF.fact 56 _ _ rfl rfl (dep hd 56 (by kernel_rfl))
      have fg : ac.tmps.getD 129 undef = .bool true := hF.fact 50 _ _ rfl rfl (dep hd 50 (by kernel_rfl))
      refine ⟨wanted_true (g := 50) rfl rfl rfl fg, fun K hK => ?_⟩
      unfold Oper.wp
      go_simp
      exact hK _ _ (Below.refl _ _) rfl
    · obtain rfl := Option.some.inj ho
      have f129 : ac.tmps.getD 129 undef = .bool true := hF.fact 50 _ _ rfl rfl (dep hd 50 (by kernel_rfl))
      have f136 : ac.tmps.getD 136 undef = .bool true := hF.fact 57 _ _ rfl rfl (dep hd 57 (by kernel_rfl))
      refine ⟨wanted_free rfl, fun K hK => ?_⟩
      unfold Oper.wp
      go_simp
      exact hK _ _ (Below.refl _ _) rfl
    · obtain rfl := Option.some.inj ho
      have f137 : ac.tmps.getD 137 undef = .bool true := hF.fact 58 _ _ rfl rfl (dep hd 58 (by kernel_rfl))
      refine ⟨wanted_free rfl, fun K hK => ?_⟩
      unfold Oper.wp
      go_simp
      exact hK _ _ (Below.refl _ _) rfl
    · obtain rfl := Option.some.inj ho
      have fg : ac.tmps.getD 138 undef = .bool true := hF.fact 59 _ _ rfl rfl (dep hd 59 (by kernel_rfl))
      refine ⟨wanted_true (g := 59) rfl rfl rfl fg, fun K hK => ?_⟩
      unfold Oper.wp
      go_simp
      refine (cwakes_any F _ (F.keep _ _ hTq hF.cls)).mono ?_
      rintro e w' ⟨rfl, hB⟩
      exact hK _ _ hB rfl
    · obtain rfl := Option.some.inj ho
      have f138 : ac.tmps.getD 138 undef = .bool true := hF.fact 59 _ _ rfl rfl (dep hd 59 (by kernel_rfl))
      have f139 : ac.tmps.getD 139 undef = .bool true := hF.fact 60 _ _ rfl rfl (dep hd 60 (by kernel_rfl))
      refine ⟨wanted_free rfl, fun K hK => ?_⟩
      unfold Oper.wp
      go_simp
      exact hK _ _ (Below.refl _ _) rfl
    · obtain rfl := Option.some.inj ho
      have f140 : ac.tmps.getD 140 undef = .bool true := hF.fact 61 _ _ rfl rfl (dep hd 61 (by kernel_rfl))
      refine ⟨wanted_free rfl, fun K hK => ?_⟩
      unfold Oper.wp
      go_simp
      exact hK _ _ (Below.refl _ _) rfl
    · cases ho
  · intro L ac wc hL hF
    have fe : ac.tmps.getD 6 undef = .bool true := hF.fact 62 _ 6 rfl rfl (hL 62 (by decide))
    have hb' := (hKq.below hF.cls).2
    go_wp2
    exact bodyPost_ret (results_tmp rfl _ _ _) hF.defers ⟨by rw [fe], hb'⟩
end Go.Proofs.YtaekpoiaigklgaaDoor
