/- The walk of the law CurveSmall, over the program's functions by their contracts. -/
import Derived.Test.YtaekpoiaigklgaaDoorW0
namespace Go.Proofs.YtaekpoiaigklgaaDoor
open Go Go.RowKit
theorem mod12 (a : Int) : ∃ j : Nat, j < 12 ∧ (IntKind.u64.wrap a).tmod 12 = (j : Int) := by
  have h : 0 ≤ IntKind.u64.wrap a := by simp [IntKind.wrap, IntKind.bits, IntKind.signed]; omega
  exact ⟨((IntKind.u64.wrap a).tmod 12).toNat, by rw [Int.tmod_eq_emod_of_nonneg h]; omega, by rw [Int.tmod_eq_emod_of_nonneg h]; omega⟩
def factSm (j p s : Nat) : Nat → Value → Prop
  | 0, vq => vq = .int .i64 ((j : Int))
  | 1, vq => vq = .agg (B32 (bdig j))
  | 2, vq => vq = .agg (B32 (bdig p))
  | 3, vq => vq = .tuple #[.agg (B32 (bdig s)), .int .i64 (0)]
  | 4, vq => vq = .tuple #[.agg (B32 (bdig s)), .int .i64 (0)]
  | 5, vq => vq = .agg (B32 (bdig s))
  | 6, vq => vq = .int .i64 (0)
  | 9, vq => vq = .int .i64 (0)
  | 7, vq => ∃ g, vq = .pointer (some ⟨g, 0, none⟩)
  | _, _ => True

set_option maxRecDepth 100000 in
set_option maxHeartbeats 2000000 in
theorem csmall_any {T : World → Prop} (F : Crv T) (n : Nat) (a : Int) (hn : Hid (n < R256)) (w : World) (hT : T w) : Calls Tryd.prog 6 #[.agg (B32 (bdig n)), .int .i64 a] w fun x w' => x = .returned (.bool true) ∧ Below w.heap.size w w' := by
  have hz := (zero_of_info zeroB32).1
  obtain ⟨j, hj, hk⟩ := mod12 a
  have hwj : IntKind.i64.wrap (j : Int) = (j : Int) := by simp [IntKind.wrap, IntKind.bits, IntKind.signed]; omega
  have hj63 : Hid (j < 9223372036854775808) := by show _ < _; omega
  have hjR : Hid (j < R256) := Nat.lt_trans hj (by decide)
  obtain ⟨p, Hp⟩ : ∃ a, Hid (enc (Pt.times n BP) = a) := ⟨_, rfl⟩
  go_enter Tryd.func6, Tryd.ntmps6
  go_upto_region 1 with fail
  have hK := (Kp.nil w).alloc (B32 (bdig n)) 22
  generalize w.alloc (.cells (B32 (bdig n)) 22) = W at *
  obtain ⟨bN, HbN⟩ : ∃ b, Hid (w.heap.size = b) := ⟨_, rfl⟩
  have le_bN : Hid (w.heap.size ≤ bN) := by show _ ≤ _; have := HbN.out; omega
  rw [HbN.out] at hK ⊢
  go_upto_region 2 with fail
  clear hk hwj
  go_wp2_with (refine wpList_load_own (by rfl) 22 (.tmp 2) (by rfl) bN (by rfl) (B32 (bdig n)) _ (hK.at bN (B32 (bdig n)) 22 (.head _)) Tryd.underlying22 (by rfl) (B32_info _) ?_)
  refine (F.baseA hn.out Hp.out _ (F.keep _ _ hT hK.2)).mono ?_
  rintro e V1 ⟨rfl, bw⟩
  have hK := hK.below bw
  clear bw
  go_upto_region 3 with (refine wpList_store_new (by rfl) 22 (.tmp 5) (.tmp 17) (by rfl) _ (B32 (bdig p)) (by rfl) (by rfl) (B32_info _) (B32_sizes _ _) (B32_one _) (by rfl) ?_)
  have lt_bN := (hK.at bN (B32 (bdig n)) 22 (.head _)).lt
  have le_b2 := show Hid _ from hK.2.size
  have hK := hK.alloc (B32 (bdig p)) 22
  generalize V1.alloc (.cells (B32 (bdig p)) 22) = V3 at *
  obtain ⟨b2, Hb2⟩ : ∃ b, Hid (V1.heap.size = b) := ⟨_, rfl⟩
  have ne_bN_b2 : Hid (bN ≠ b2) := by show _ ≠ _; rw [← Hb2.out]; exact Nat.ne_of_lt lt_bN
  have le_b2 : Hid (w.heap.size ≤ b2) := by show _ ≤ _; rw [← Hb2.out]; exact le_b2.out
  rw [Hb2.out] at hK ⊢
  clear lt_bN
  go_wp2_with fail
  refine (numc_any 1 (by decide) _).mono ?_
  rintro e V4 ⟨rfl, bw⟩
  have hK := hK.below bw
  clear bw
  go_upto_region 4 with (refine wpList_store_new (by rfl) 22 (.tmp 6) (.tmp 18) (by rfl) _ (B32 (bdig 1)) (by rfl) (by rfl) (B32_info _) (B32_sizes _ _) (B32_one _) (by rfl) ?_)
  have lt_b2 := (hK.at b2 (B32 (bdig p)) 22 (.head _)).lt
  have lt_bN := (hK.at bN (B32 (bdig n)) 22 (.tail _ (.head _))).lt
  have le_b5 := show Hid _ from hK.2.size
  have hK := hK.alloc (B32 (bdig 1)) 22
  generalize V4.alloc (.cells (B32 (bdig 1)) 22) = V6 at *
  obtain ⟨b5, Hb5⟩ : ∃ b, Hid (V4.heap.size = b) := ⟨_, rfl⟩
  have ne_b2_b5 : Hid (b2 ≠ b5) := by show _ ≠ _; rw [← Hb5.out]; exact Nat.ne_of_lt lt_b2
  have ne_bN_b5 : Hid (bN ≠ b5) := by show _ ≠ _; rw [← Hb5.out]; exact Nat.ne_of_lt lt_bN
  have le_b5 : Hid (w.heap.size ≤ b5) := by show _ ≤ _; rw [← Hb5.out]; exact le_b5.out
  rw [Hb5.out] at hK ⊢
  clear lt_b2 lt_bN
  go_wp2_with fail
  go_loopw [7] (fun ii wr => ∃ (i s : Nat), i ≤ j ∧ ii = .int .i64 (i : Int) ∧ Hid (enc (Pt.times i (Pt.times n BP)) = s) ∧ Kp [(b5, B32 (bdig s), 22), (b2, B32 (bdig p), 22), (bN, B32 (bdig n), 22)] w wr) (fun ii _ => j - (intOf ii).toNat)
  case atStart => exact ⟨0, 1, by omega, rfl, enc_nought, hK⟩
  case round =>
    obtain ⟨i, s, hi, rfl, Hs, hKr⟩ := hrel
    have hi0 : (0 : Int) ≤ (i : Int) := by omega
    have hK := hKr
    clear hKr
    by_cases hlt : i < j
    · have hki : (i : Int) < (j : Int) := by omega
      obtain ⟨t, Ht⟩ : ∃ a, Hid (enc ((Pt.times i (Pt.times n BP)).add (Pt.times n BP)) = a) := ⟨_, rfl⟩
      go_upto_region 7 with fail
      go_wp2_with (first
        | refine wpList_load_own (by rfl) 22 (.tmp 6) (by rfl) b5 (by rfl) (B32 (bdig s)) _ (hK.at b5 (B32 (bdig s)) 22 (.head _)) Tryd.underlying22 (by rfl) (B32_info _) ?_
        | refine wpList_load_own (by rfl) 22 (.tmp 5) (by rfl) b2 (by rfl) (B32 (bdig p)) _ (hK.at b2 (B32 (bdig p)) 22 (.tail _ (.head _))) Tryd.underlying22 (by rfl) (B32_info _) ?_)
      refine (F.addA Hs.out Hp.out rfl Ht.out _ (F.keep _ _ hT hK.2)).mono ?_
      rintro e V7 ⟨rfl, bw⟩
      have hK := hK.below bw
      clear bw
      go_upto_region 8 with (refine wpList_store_new (by rfl) 22 (.tmp 8) (.tmp 28) (by rfl) _ (B32 (bdig t)) (by rfl) (by rfl) (B32_info _) (B32_sizes _ _) (B32_one _) (by rfl) ?_)
      have lt_b5 := (hK.at b5 (B32 (bdig s)) 22 (.head _)).lt
      have lt_b2 := (hK.at b2 (B32 (bdig p)) 22 (.tail _ (.head _))).lt
      have lt_bN := (hK.at bN (B32 (bdig n)) 22 (.tail _ (.tail _ (.head _)))).lt
      have le_b8 := show Hid _ from hK.2.size
      have hK := hK.alloc (B32 (bdig t)) 22
      generalize V7.alloc (.cells (B32 (bdig t)) 22) = V9 at *
      obtain ⟨b8, Hb8⟩ : ∃ b, Hid (V7.heap.size = b) := ⟨_, rfl⟩
      have ne_b5_b8 : Hid (b5 ≠ b8) := by show _ ≠ _; rw [← Hb8.out]; exact Nat.ne_of_lt lt_b5
      have ne_b2_b8 : Hid (b2 ≠ b8) := by show _ ≠ _; rw [← Hb8.out]; exact Nat.ne_of_lt lt_b2
      have ne_bN_b8 : Hid (bN ≠ b8) := by show _ ≠ _; rw [← Hb8.out]; exact Nat.ne_of_lt lt_bN
      have le_b8 : Hid (w.heap.size ≤ b8) := by show _ ≤ _; rw [← Hb8.out]; exact le_b8.out
      rw [Hb8.out] at hK ⊢
      clear lt_b5 lt_b2 lt_bN
      go_upto_region 10 with fail
      go_upto_region 6 with (first
        | refine wpList_load_own (by rfl) 22 (.tmp 8) (by rfl) b8 (by rfl) (B32 (bdig t)) _ (hK.at b8 (B32 (bdig t)) 22 (.head _)) Tryd.underlying22 (by rfl) (B32_info _) ?_
        | refine wpList_store_own (op := { dst := none, op := _, type := _, pos := _, after := _, guard := _ }) rfl 22 (.tmp 6) (.tmp 32) rfl b5 0 (B32 (bdig t)) (by rfl) (by rfl) (hK.at b5 (B32 (bdig s)) 22 (.tail _ (.head _))) (B32_le _ _) (B32_info _) (B32_one _) (by rfl) ?_)
      have hK : Kp [(b5, B32 (bdig s), 22), (b8, B32 (bdig t), 22), (b2, B32 (bdig p), 22), (bN, B32 (bdig n), 22)] w V9 := ((((hK.none.cons (hK.at bN (B32 (bdig n)) 22 (.tail _ (.tail _ (.tail _ (.head _)))))).cons (hK.at b2 (B32 (bdig p)) 22 (.tail _ (.tail _ (.head _))))).cons (hK.at b8 (B32 (bdig t)) 22 (.head _))).cons (hK.at b5 (B32 (bdig s)) 22 (.tail _ (.head _))))
      have hK := Kp.set (A' := B32 (bdig t)) hK (by simp only [List.forall_mem_cons, List.not_mem_nil, false_implies, implies_true, and_true]; exact ⟨(Ne.symm ne_b5_b8.out), ne_b2_b5.out, ne_bN_b5.out⟩) le_b5.out (B32_sizes _ _)
      generalize V9.setCells b5 0 (B32 (bdig t)).toList = V10 at *
      have hK : Kp [(b5, B32 (bdig t), 22), (b2, B32 (bdig p), 22), (bN, B32 (bdig n), 22)] w V10 := (((hK.none.cons (hK.at bN (B32 (bdig n)) 22 (.tail _ (.tail _ (.tail _ (.head _)))))).cons (hK.at b2 (B32 (bdig p)) 22 (.tail _ (.tail _ (.head _))))).cons (hK.at b5 (B32 (bdig t)) 22 (.head _)))
      go_wp2_with fail
      exact ⟨⟨i + 1, t, by omega, by go_num, Ht.out, hK⟩, by simp [intOf]; omega⟩
    · have hki : ¬ (i : Int) < (j : Int) := by omega
      have hs := B32_same s (by rw [← Hs.out]; exact enc_R _)
      have Hs : Hid (enc (Pt.times j (Pt.times n BP)) = s) := by show _ = _; rw [← Hs.out, show i = j by omega]
      go_upto_region 11 with fail
      refine wp_region_told 50 (by kernel_rfl) (by kernel_rfl) (by rfl) (factSm j p s) (fun L vs => MkN 1 [(b5, B32 (bdig s), 22), (b2, B32 (bdig p), 22), (bN, B32 (bdig n), 22)] w (fun _ => B32 fun _ => 0) (fun _ => B32 (bdig s)) (fun _ => 22) (fun i => L (7 + i)) (fun i => L (8 + i)) (fun i => vs (7 + i))) (fun _ => MkN.drew hK (fun _ _ => rfl)) ?_ ?_
      · intro L vs ac wc i o hF hLi ho hd K hK
        rcases i with _ | _ | _ | _ | _ | _ | _ | _ | _ | _ | i
        · have ho' := ho
          obtain rfl := Option.some.inj ho
          have f1 : ac.tmps.getD 1 undef = .int .i64 ((j : Int)) := slott hF 0 hLi 1 (by kernel_rfl)
          refine step_do ho' (wanted_free rfl) ?_
          unfold Oper.wp
          go_simp
          exact hK _ _ (.inr rfl) (hF.j.congr (fun i hi => if_off (by decide) hi) (fun i hi => if_off (by decide) hi) (fun i hi => if_off (by decide) hi))
        · have ho' := ho
          obtain rfl := Option.some.inj ho
          have f34 : ac.tmps.getD 34 undef = .int .i64 ((j : Int)) := (factt hF hd 0 rfl rfl (by kernel_rfl)).1.trans (factt hF hd 0 rfl rfl (by kernel_rfl)).2
          refine step_do ho' (wanted_free rfl) ?_
          unfold Oper.wp
          go_simp
          refine (numc_any j hj63.out _).mono ?_
          rintro e w' ⟨rfl, hB⟩
          exact hK _ _ (.inr rfl) ((hF.j.congr (fun i hi => if_off (by decide) hi) (fun i hi => if_off (by decide) hi) (fun i hi => if_off (by decide) hi)).below hB)
        · have ho' := ho
          obtain rfl := Option.some.inj ho
          have f5 : ac.tmps.getD 5 undef = .pointer (some ⟨b2, 0, none⟩) := slott hF 2 hLi 5 (by kernel_rfl)
          refine step_do ho' (wanted_free rfl) ?_
          exact wp_load_own 22 (.tmp 5) rfl b2 f5 (B32 (bdig p)) _ 22 (hF.j.1.at b2 (B32 (bdig p)) 22 (.tail _ (.head _))) Tryd.underlying22 rfl (B32_info _) (hK _ _ (.inr rfl) (hF.j.congr (fun i hi => if_off (by decide) hi) (fun i hi => if_off (by decide) hi) (fun i hi => if_off (by decide) hi)))
        · have ho' := ho
          obtain rfl := Option.some.inj ho
          have f35 : ac.tmps.getD 35 undef = .agg (B32 (bdig j)) := (factt hF hd 1 rfl rfl (by kernel_rfl)).1.trans (factt hF hd 1 rfl rfl (by kernel_rfl)).2
          have f36 : ac.tmps.getD 36 undef = .agg (B32 (bdig p)) := (factt hF hd 2 rfl rfl (by kernel_rfl)).1.trans (factt hF hd 2 rfl rfl (by kernel_rfl)).2
          refine step_do ho' (wanted_free rfl) ?_
          unfold Oper.wp
          go_simp
          refine (F.mulA hjR.out Hp.out rfl Hs.out _ (F.keep _ _ hT hF.j.1.2)).mono ?_
          rintro e w' ⟨rfl, hB⟩
          exact hK _ _ (.inr rfl) ((hF.j.congr (fun i hi => if_off (by decide) hi) (fun i hi => if_off (by decide) hi) (fun i hi => if_off (by decide) hi)).below hB)
        · have ho' := ho
          obtain rfl := Option.some.inj ho
          have f37 : ac.tmps.getD 37 undef = .tuple #[.agg (B32 (bdig s)), .int .i64 (0)] := (factt hF hd 3 rfl rfl (by kernel_rfl)).1.trans (factt hF hd 3 rfl rfl (by kernel_rfl)).2
          refine step_do ho' (wanted_free rfl) ?_
          unfold Oper.wp
          go_simp
          exact hK _ _ (.inr rfl) (hF.j.congr (fun i hi => if_off (by decide) hi) (fun i hi => if_off (by decide) hi) (fun i hi => if_off (by decide) hi))
        · have ho' := ho
          obtain rfl := Option.some.inj ho
          have f33 : ac.tmps.getD 33 undef = .tuple #[.agg (B32 (bdig s)), .int .i64 (0)] := (factt hF hd 4 rfl rfl (by kernel_rfl)).1.trans (factt hF hd 4 rfl rfl (by kernel_rfl)).2
          refine step_do ho' (wanted_free rfl) ?_
          unfold Oper.wp
          go_simp
          exact hK _ _ (.inr rfl) (hF.j.congr (fun i hi => if_off (by decide) hi) (fun i hi => if_off (by decide) hi) (fun i hi => if_off (by decide) hi))
        · have ho' := ho
          obtain rfl := Option.some.inj ho
          have f33 : ac.tmps.getD 33 undef = .tuple #[.agg (B32 (bdig s)), .int .i64 (0)] := (factt hF hd 4 rfl rfl (by kernel_rfl)).1.trans (factt hF hd 4 rfl rfl (by kernel_rfl)).2
          refine step_do ho' (wanted_free rfl) ?_
          unfold Oper.wp
          go_simp
          exact hK _ _ (.inr rfl) (hF.j.congr (fun i hi => if_off (by decide) hi) (fun i hi => if_off (by decide) hi) (fun i hi => if_off (by decide) hi))
        · have ho' := ho
          obtain rfl := Option.some.inj ho
          refine step_do ho' (wanted_free rfl) ?_
          have hs := notyett hF 7 hLi 8 rfl (by kernel_rfl)
          unfold Oper.wp
          go_simp
          exact hK _ _ (.inr ⟨_, rfl⟩) (hF.j.alloc 0 (fun i _ hne => if_oth (k := 0) rfl hne) (fun i hi => if_off (by decide) hi) (fun i _ hne => if_oth (k := 0) rfl hne) rfl hs)
        · have ho' := ho
          obtain rfl := Option.some.inj ho
          have f38 : ac.tmps.getD 38 undef = .agg (B32 (bdig s)) := (factt hF hd 5 rfl rfl (by kernel_rfl)).1.trans (factt hF hd 5 rfl rfl (by kernel_rfl)).2
          refine step_do ho' (wanted_free rfl) ?_
          obtain ⟨fg, gq, hg⟩ := factt hF hd 7 rfl rfl (by kernel_rfl)
          have hm := dep hd 7 (by kernel_rfl)
          have hj := hF.j
          rw [hg] at fg
          have hj2 := hj.at (k := 0) (by decide) hm hg hLi
          refine wp_store_own 22 (.tmp 10) (.tmp 38) rfl gq (B32 (bdig s)) fg f38 hj2.2.2 (B32_sizes _ _) (B32_info _) (B32_one _) rfl ?_
          exact hK undef _ (.inl rfl) (hj.store (k := 0) (by decide) hm hg hLi (B32_sizes _ _) (fun i hi => if_off (by decide) hi) (fun i _ hne => if_oth (k := 0) rfl hne) (fun i hi => if_off (by decide) hi) rfl)
        · have ho' := ho
          obtain rfl := Option.some.inj ho
          have f39 : ac.tmps.getD 39 undef = .int .i64 (0) := (factt hF hd 6 rfl rfl (by kernel_rfl)).1.trans (factt hF hd 6 rfl rfl (by kernel_rfl)).2
          refine step_do ho' (wanted_free rfl) ?_
          unfold Oper.wp
          go_simp
          exact hK _ _ (.inr rfl) (hF.j.congr (fun i hi => if_off (by decide) hi) (fun i hi => if_off (by decide) hi) (fun i hi => if_off (by decide) hi))
        · cases ho
      intro L vs V7 hL hJ hf
      obtain ⟨g8, hgg8⟩ := hf 7 _ _ rfl rfl
      obtain ⟨le0, apg8, owng8⟩ := hJ.got (k := 0) (by decide) (hL 7 (by decide)) hgg8 (hL 8 (by decide))
      have le_g8 := show Hid _ from le0
      clear le0
      have hK : Kp [(g8, B32 (bdig s), 22), (b5, B32 (bdig s), 22), (b2, B32 (bdig p), 22), (bN, B32 (bdig n), 22)] w V7 := (hJ.1.cons owng8)
      have e0 : vs 0 = _ := hf 0 _ _ rfl rfl
      have e1 : vs 1 = _ := hf 1 _ _ rfl rfl
      have e2 : vs 2 = _ := hf 2 _ _ rfl rfl
      have e3 : vs 3 = _ := hf 3 _ _ rfl rfl
      have e4 : vs 4 = _ := hf 4 _ _ rfl rfl
      have e5 : vs 5 = _ := hf 5 _ _ rfl rfl
      have e6 : vs 6 = _ := hf 6 _ _ rfl rfl
      have e9 : vs 9 = _ := hf 9 _ _ rfl rfl
      simp only [putAll, Nat.zero_add, Nat.reduceAdd, e0, e1, e2, e3, e4, e5, e6, e9, hgg8, Act.put, List.setIfInBounds_toArray, List.set_cons_succ, List.set_cons_zero]
      clear hJ hf hL e0 e1 e2 e3 e4 e5 e6 e9 hgg8 apg8 owng8
      go_wp2_with (first
        | refine wpList_load_gd (by rfl) 22 (.tmp 10) (by rfl) g8 (by rfl) (B32 (bdig s)) _ (hK.at g8 (B32 (bdig s)) 22 (.head _)) Tryd.underlying22 (by rfl) (B32_info _) ?_
        | refine wpList_load_gd (by rfl) 22 (.tmp 6) (by rfl) b5 (by rfl) (B32 (bdig s)) _ (hK.at b5 (B32 (bdig s)) 22 (.tail _ (.head _))) Tryd.underlying22 (by rfl) (B32_info _) ?_)
      refine (cwakes_any F _ (F.keep _ _ hT hK.2)).mono ?_
      rintro e wz ⟨rfl, bz⟩
      have hK := hK.below bz
      go_wp2
      go_ret
      exact ⟨rfl, hK.2⟩
end Go.Proofs.YtaekpoiaigklgaaDoor
