/- Of the texts SS1: what the card of this claim reaches. -/
import Derived.Test.YtfkcphbbabaefaaDoorXB34
namespace Go.Proofs.YtfkcphbbabaefaaDoor
open Go Go.RowKit
def factSign (c y r R k S : Nat) (ta : Option Addr) (tc : Nat) (m : List Int) : Nat → Value → Prop
  | 0, vq => vq = .agg (B32 (bdig R))
  | 1, vq => vq = .agg (B32 (bdig c))
  | 2, vq => vq = .agg (B32 (bdig y))
  | 3, vq => vq = .slice ta m.length tc
  | 4, vq => vq = .agg (B32 (bdig k))
  | 5, vq => vq = .agg (B32 (bdig c))
  | 6, vq => vq = .agg (B32 (bdig r))
  | 7, vq => vq = .agg (B32 (bdig S))
  | 8, vq => ∃ g, vq = .pointer (some ⟨g, 0, none⟩)
  | _, _ => True
def valSign6 (b14 b10 : Nat) : Nat → Value
  | 0 => .slice (some ⟨b14, 0, none⟩) 32 64
  | 1 => .slice (some ⟨b10, 0, none⟩) 32 32
  | 2 => .int .i64 (32)
  | _ => undef
def valSign7 (b14 g13 : Nat) : Nat → Value
  | 0 => .slice (some ⟨b14, 32, none⟩) 32 32
  | 1 => .slice (some ⟨g13, 0, none⟩) 32 32
  | 2 => .int .i64 (32)
  | _ => undef
set_option maxRecDepth 100000 in
set_option maxHeartbeats 400000 in
theorem sign_at {T : World → Prop} (F : Low T) {n lo hi c y r R k S : Nat} {ta : Option Addr} {tc : Nat} {m : List Int} (Hd : Hid (dn (by32 n) = two lo hi)) (llo : Hid (lo < R256)) (Hc : Hid (clamp lo = c)) (Hy : Hid (enc (Pt.times c BP) = y)) (Hr : Hid (dn (by32 hi ++ m) % LL = r)) (HR : Hid (enc (Pt.times r BP) = R)) (Hk : Hid (dn (by32 R ++ (by32 y ++ m)) % LL = k)) (HS : Hid ((k * c + r) % LL = S)) (hl : m.length ≤ 1000) (w : World) (hT : T w) (hm : Txt w ta tc m) : Calls Tryd.prog 12 #[.agg (B32 (bdig n)), .slice ta m.length tc] w fun x w' => x = .returned (.agg (B64 (bdig (two R S)))) ∧ Below w.heap.size w w' := by
  have hz := (zero_of_info zeroB32).1
  have hz64 := (zero_of_info zeroB64).1
  have lc : Hid (c < R256) := by show _ < _; rw [← Hc.out]; exact clamp_lt _
  have lr : Hid (r < R256) := by show _ < _; rw [← Hr.out]; exact lt_of_modL
  have lk : Hid (k < R256) := by show _ < _; rw [← Hk.out]; exact lt_of_modL
  have lR : Hid (R < R256) := by show _ < _; rw [← HR.out, R256_HH]; exact enc_lt _
  obtain ⟨z, Hz⟩ : ∃ z, Hid (dn (by32 hi ++ m) = z) := ⟨_, rfl⟩
  have hzl : Hid (z < R512) := by show _ < _; rw [← Hz.out]; exact dn_lt _
  have hzr : Hid (z % LL = r) := by show _ = _; rw [← Hz.out]; exact Hr.out
  have hfl : Hid ([by32 hi, m].flatten = by32 hi ++ m) := by show _ = _; simp
  have hln : Hid ((by32 hi ++ m).length ≤ 16000000) := by show _ ≤ _; rw [List.length_append, by32_length]; omega
  go_enter Tryd.func12, Tryd.ntmps12
  go_upto_region 1 with fail
  have hK := ((Kp.nil w).alloc (B32 (bdig n)) 22).alloc (B64 fun _ => 0) 24
  rw [World.size_alloc] at hK
  generalize (w.alloc (.cells (B32 (bdig n)) 22)).alloc (.cells (B64 fun _ => 0) 24) = W at *
  obtain ⟨bA, HbA⟩ : ∃ b, Hid (w.heap.size = b) := ⟨_, rfl⟩
  obtain ⟨bR, HbR⟩ : ∃ b, Hid (bA + 1 = b) := ⟨_, rfl⟩
  have le_bA : Hid (w.heap.size ≤ bA) := by show _ ≤ _; have := HbA.out; omega
  have le_bR : Hid (w.heap.size ≤ bR) := by show _ ≤ _; have := HbA.out; have := HbR.out; omega
  have ne_bA_bR : Hid (bA ≠ bR) := by show _ ≠ _; have := HbR.out; omega
  rw [HbA.out, HbR.out] at hK ⊢
  go_wp2_with (refine wpList_load_own (by rfl) 22 (.tmp 2) (by rfl) bA (by rfl) (B32 (bdig n)) _ (hK.at bA (B32 (bdig n)) 22 (.tail _ (.head _))) Tryd.underlying22 (by rfl) (B32_info _) ?_)
  refine (halves_at F Hd llo Hc _ (F.keep _ _ hT hK.2)).mono ?_
  rintro e V1 ⟨rfl, bw⟩
  have hK := hK.below bw
  clear bw
  go_upto_region 2 with ((refine wpList_news2 hK 22 22 5 6 14 15 (by rfl) (by rfl) (by rfl) (by rfl) (by rfl) (by rfl) (by rfl) (by rfl) (by rfl) (by rfl) (by rfl) (by rfl) hz hz (of_decide_eq_true (by rfl)) (of_decide_eq_true (by rfl)) (by decide) (by decide) (by decide) (by decide) (by decide) (by rfl) (by rfl) (B32_sizes _ _) (B32_sizes _ _) (B32_info _) (B32_info _) (B32_one _) (B32_one _) ?_; intro b2 b3 V4 le_b2 le_b3 ne_b2_b3 ap1 ap2 hK))
  have le_b2 := show Hid _ from le_b2
  have le_b3 := show Hid _ from le_b3
  have ne_b2_b3 := show Hid _ from ne_b2_b3
  have ne_bR_b2 : Hid (bR ≠ b2) := ap1 (bR, B64 fun _ => 0, 24) (.head _)
  have ne_bR_b3 : Hid (bR ≠ b3) := ap2 (bR, B64 fun _ => 0, 24) (.head _)
  have ne_bA_b2 : Hid (bA ≠ b2) := ap1 (bA, B32 (bdig n), 22) (.tail _ (.head _))
  have ne_bA_b3 : Hid (bA ≠ b3) := ap2 (bA, B32 (bdig n), 22) (.tail _ (.head _))
  clear ap1 ap2
  go_wp2_with fail
  have hq := rows2 (bytes_own (hK.at b3 (B32 (bdig hi)) 22 (.head _))) (fun h => by cases h) ((hm.below hK.2).1) hm.2
  have hK := hK.below (alloc_below V4 (.cells #[.slice (some ⟨b3, 0, none⟩) 32 32, .slice ta m.length tc] 23))
  refine (F.wsumA hfl.out Hz.out hln.out _ (F.keep _ _ hT hK.2) hq).mono ?_
  rintro e V5 ⟨rfl, bw⟩
  have hK := hK.below bw
  clear bw hq
  go_wp2_with fail
  refine (F.swideA hzl.out hzr.out _ (F.keep _ _ hT hK.2)).mono ?_
  rintro e V6 ⟨rfl, bw⟩
  have hK := hK.below bw
  clear bw
  go_upto_region 3 with (refine wpList_store_new (by rfl) 22 (.tmp 7) (.tmp 20) (by rfl) _ (B32 (bdig r)) (by rfl) (by rfl) (B32_info _) (B32_sizes _ _) (B32_one _) (by rfl) ?_)
  have lt_b3 := (hK.at b3 (B32 (bdig hi)) 22 (.head _)).lt
  have lt_b2 := (hK.at b2 (B32 (bdig c)) 22 (.tail _ (.head _))).lt
  have lt_bR := (hK.at bR (B64 fun _ => 0) 24 (.tail _ (.tail _ (.head _)))).lt
  have lt_bA := (hK.at bA (B32 (bdig n)) 22 (.tail _ (.tail _ (.tail _ (.head _))))).lt
  have le_b7 := show Hid _ from hK.2.size
  have hK := hK.alloc (B32 (bdig r)) 22
  generalize V6.alloc (.cells (B32 (bdig r)) 22) = V8 at *
  obtain ⟨b7, Hb7⟩ : ∃ b, Hid (V6.heap.size = b) := ⟨_, rfl⟩
  have ne_b3_b7 : Hid (b3 ≠ b7) := by show _ ≠ _; rw [← Hb7.out]; exact Nat.ne_of_lt lt_b3
  have ne_b2_b7 : Hid (b2 ≠ b7) := by show _ ≠ _; rw [← Hb7.out]; exact Nat.ne_of_lt lt_b2
  have ne_bR_b7 : Hid (bR ≠ b7) := by show _ ≠ _; rw [← Hb7.out]; exact Nat.ne_of_lt lt_bR
  have ne_bA_b7 : Hid (bA ≠ b7) := by show _ ≠ _; rw [← Hb7.out]; exact Nat.ne_of_lt lt_bA
  have le_b7 : Hid (w.heap.size ≤ b7) := by show _ ≤ _; rw [← Hb7.out]; exact le_b7.out
  rw [Hb7.out] at hK ⊢
  clear lt_b3 lt_b2 lt_bR lt_bA
  go_wp2_with (refine wpList_load_own (by rfl) 22 (.tmp 7) (by rfl) b7 (by rfl) (B32 (bdig r)) _ (hK.at b7 (B32 (bdig r)) 22 (.head _)) Tryd.underlying22 (by rfl) (B32_info _) ?_)
  refine (F.baseA lr.out HR.out _ (F.keep _ _ hT hK.2)).mono ?_
  rintro e V9 ⟨rfl, bw⟩
  have hK := hK.below bw
  clear bw
  go_upto_region 4 with (refine wpList_store_new (by rfl) 22 (.tmp 8) (.tmp 22) (by rfl) _ (B32 (bdig R)) (by rfl) (by rfl) (B32_info _) (B32_sizes _ _) (B32_one _) (by rfl) ?_)
  have lt_b7 := (hK.at b7 (B32 (bdig r)) 22 (.head _)).lt
  have lt_b3 := (hK.at b3 (B32 (bdig hi)) 22 (.tail _ (.head _))).lt
  have lt_b2 := (hK.at b2 (B32 (bdig c)) 22 (.tail _ (.tail _ (.head _)))).lt
  have lt_bR := (hK.at bR (B64 fun _ => 0) 24 (.tail _ (.tail _ (.tail _ (.head _))))).lt
  have lt_bA := (hK.at bA (B32 (bdig n)) 22 (.tail _ (.tail _ (.tail _ (.tail _ (.head _)))))).lt
  have le_b10 := show Hid _ from hK.2.size
  have hK := hK.alloc (B32 (bdig R)) 22
  generalize V9.alloc (.cells (B32 (bdig R)) 22) = V11 at *
  obtain ⟨b10, Hb10⟩ : ∃ b, Hid (V9.heap.size = b) := ⟨_, rfl⟩
  have ne_b7_b10 : Hid (b7 ≠ b10) := by show _ ≠ _; rw [← Hb10.out]; exact Nat.ne_of_lt lt_b7
  have ne_b3_b10 : Hid (b3 ≠ b10) := by show _ ≠ _; rw [← Hb10.out]; exact Nat.ne_of_lt lt_b3
  have ne_b2_b10 : Hid (b2 ≠ b10) := by show _ ≠ _; rw [← Hb10.out]; exact Nat.ne_of_lt lt_b2
  have ne_bR_b10 : Hid (bR ≠ b10) := by show _ ≠ _; rw [← Hb10.out]; exact Nat.ne_of_lt lt_bR
  have ne_bA_b10 : Hid (bA ≠ b10) := by show _ ≠ _; rw [← Hb10.out]; exact Nat.ne_of_lt lt_bA
  have le_b10 : Hid (w.heap.size ≤ b10) := by show _ ≤ _; rw [← Hb10.out]; exact le_b10.out
  rw [Hb10.out] at hK ⊢
  clear lt_b7 lt_b3 lt_b2 lt_bR lt_bA
  refine wp_region_told 38 (by kernel_rfl) (by kernel_rfl) (by rfl) (factSign c y r R k S ta tc m) (fun L vs => MkN 1 [(b10, B32 (bdig R), 22), (b7, B32 (bdig r), 22), (b3, B32 (bdig hi), 22), (b2, B32 (bdig c), 22), (bR, B64 fun _ => 0, 24), (bA, B32 (bdig n), 22)] w (fun _ => B32 fun _ => 0) (fun _ => B32 (bdig S)) (fun _ => 22) (fun i => L (8 + i)) (fun i => L (9 + i)) (fun i => vs (8 + i))) (fun _ => MkN.drew hK (fun _ _ => rfl)) ?_ ?_
  · intro L vs ac wc i o hF hLi ho hd K hK
    rcases i with _ | _ | _ | _ | _ | _ | _ | _ | _ | _ | i
    · have ho' := ho
      obtain rfl := Option.some.inj ho
      have f8 : ac.tmps.getD 8 undef = .pointer (some ⟨b10, 0, none⟩) := slott hF 0 hLi 8 (by kernel_rfl)
      refine step_do ho' (wanted_free rfl) ?_
      exact wp_load_own 22 (.tmp 8) rfl b10 f8 (B32 (bdig R)) _ 22 (hF.j.1.at b10 (B32 (bdig R)) 22 (.head _)) Tryd.underlying22 rfl (B32_info _) (hK _ _ (.inr rfl) (hF.j.congr (fun i hi => if_off (by decide) hi) (fun i hi => if_off (by decide) hi) (fun i hi => if_off (by decide) hi)))
    · have ho' := ho
      obtain rfl := Option.some.inj ho
      have f5 : ac.tmps.getD 5 undef = .pointer (some ⟨b2, 0, none⟩) := slott hF 1 hLi 5 (by kernel_rfl)
      refine step_do ho' (wanted_free rfl) ?_
      exact wp_load_own 22 (.tmp 5) rfl b2 f5 (B32 (bdig c)) _ 22 (hF.j.1.at b2 (B32 (bdig c)) 22 (.tail _ (.tail _ (.tail _ (.head _))))) Tryd.underlying22 rfl (B32_info _) (hK _ _ (.inr rfl) (hF.j.congr (fun i hi => if_off (by decide) hi) (fun i hi => if_off (by decide) hi) (fun i hi => if_off (by decide) hi)))
    · have ho' := ho
      obtain rfl := Option.some.inj ho
      have f24 : ac.tmps.getD 24 undef = .agg (B32 (bdig c)) := (factt hF hd 1 rfl rfl (by kernel_rfl)).1.trans (factt hF hd 1 rfl rfl (by kernel_rfl)).2
      refine step_do ho' (wanted_free rfl) ?_
      unfold Oper.wp
      go_simp
      refine (F.baseA lc.out Hy.out _ (F.keep _ _ hT hF.j.1.2)).mono ?_
      rintro e w' ⟨rfl, hB⟩
      exact hK _ _ (.inr rfl) (((hF.j.congr (fun i hi => if_off (by decide) hi) (fun i hi => if_off (by decide) hi) (fun i hi => if_off (by decide) hi))).below hB)
    · have ho' := ho
      obtain rfl := Option.some.inj ho
      have f1 : ac.tmps.getD 1 undef = .slice ta m.length tc := slott hF 3 hLi 1 (by kernel_rfl)
      refine step_do ho' (wanted_free rfl) ?_
      unfold Oper.wp
      go_simp
      exact hK _ _ (.inr rfl) (hF.j.congr (fun i hi => if_off (by decide) hi) (fun i hi => if_off (by decide) hi) (fun i hi => if_off (by decide) hi))
    · have ho' := ho
      obtain rfl := Option.some.inj ho
      have f23 : ac.tmps.getD 23 undef = .agg (B32 (bdig R)) := (factt hF hd 0 rfl rfl (by kernel_rfl)).1.trans (factt hF hd 0 rfl rfl (by kernel_rfl)).2
      have f25 : ac.tmps.getD 25 undef = .agg (B32 (bdig y)) := (factt hF hd 2 rfl rfl (by kernel_rfl)).1.trans (factt hF hd 2 rfl rfl (by kernel_rfl)).2
      have f26 : ac.tmps.getD 26 undef = .slice ta m.length tc := (factt hF hd 3 rfl rfl (by kernel_rfl)).1.trans (factt hF hd 3 rfl rfl (by kernel_rfl)).2
      refine step_do ho' (wanted_free rfl) ?_
      unfold Oper.wp
      go_simp
      refine (bound_at F Hk hl _ (F.keep _ _ hT hF.j.1.2) (hm.below hF.j.1.2)).mono ?_
      rintro e w' ⟨rfl, hB⟩
      exact hK _ _ (.inr rfl) (((hF.j.congr (fun i hi => if_off (by decide) hi) (fun i hi => if_off (by decide) hi) (fun i hi => if_off (by decide) hi))).below hB)
    · have ho' := ho
      obtain rfl := Option.some.inj ho
      have f5 : ac.tmps.getD 5 undef = .pointer (some ⟨b2, 0, none⟩) := slott hF 5 hLi 5 (by kernel_rfl)
      refine step_do ho' (wanted_free rfl) ?_
      exact wp_load_own 22 (.tmp 5) rfl b2 f5 (B32 (bdig c)) _ 22 (hF.j.1.at b2 (B32 (bdig c)) 22 (.tail _ (.tail _ (.tail _ (.head _))))) Tryd.underlying22 rfl (B32_info _) (hK _ _ (.inr rfl) (hF.j.congr (fun i hi => if_off (by decide) hi) (fun i hi => if_off (by decide) hi) (fun i hi => if_off (by decide) hi)))
    · have ho' := ho
      obtain rfl := Option.some.inj ho
      have f7 : ac.tmps.getD 7 undef = .pointer (some ⟨b7, 0, none⟩) := slott hF 6 hLi 7 (by kernel_rfl)
      refine step_do ho' (wanted_free rfl) ?_
      exact wp_load_own 22 (.tmp 7) rfl b7 f7 (B32 (bdig r)) _ 22 (hF.j.1.at b7 (B32 (bdig r)) 22 (.tail _ (.head _))) Tryd.underlying22 rfl (B32_info _) (hK _ _ (.inr rfl) (hF.j.congr (fun i hi => if_off (by decide) hi) (fun i hi => if_off (by decide) hi) (fun i hi => if_off (by decide) hi)))
    · have ho' := ho
      obtain rfl := Option.some.inj ho
      have f27 : ac.tmps.getD 27 undef = .agg (B32 (bdig k)) := (factt hF hd 4 rfl rfl (by kernel_rfl)).1.trans (factt hF hd 4 rfl rfl (by kernel_rfl)).2
      have f28 : ac.tmps.getD 28 undef = .agg (B32 (bdig c)) := (factt hF hd 5 rfl rfl (by kernel_rfl)).1.trans (factt hF hd 5 rfl rfl (by kernel_rfl)).2
      have f29 : ac.tmps.getD 29 undef = .agg (B32 (bdig r)) := (factt hF hd 6 rfl rfl (by kernel_rfl)).1.trans (factt hF hd 6 rfl rfl (by kernel_rfl)).2
      refine step_do ho' (wanted_free rfl) ?_
      unfold Oper.wp
      go_simp
      refine (F.smuladdA lk.out lc.out lr.out HS.out _ (F.keep _ _ hT hF.j.1.2)).mono ?_
      rintro e w' ⟨rfl, hB⟩
      exact hK _ _ (.inr rfl) (((hF.j.congr (fun i hi => if_off (by decide) hi) (fun i hi => if_off (by decide) hi) (fun i hi => if_off (by decide) hi))).below hB)
    · have ho' := ho
      obtain rfl := Option.some.inj ho
      refine step_do ho' (wanted_free rfl) ?_
      have hs := notyett hF 8 hLi 9 rfl (by kernel_rfl)
      unfold Oper.wp
      go_simp
      exact hK _ _ (.inr ⟨_, rfl⟩) (hF.j.alloc 0 (fun i _ hne => if_oth (k := 0) rfl hne) (fun i hi => if_off (by decide) hi) (fun i _ hne => if_oth (k := 0) rfl hne) rfl hs)
    · have ho' := ho
      obtain rfl := Option.some.inj ho
      have f30 : ac.tmps.getD 30 undef = .agg (B32 (bdig S)) := (factt hF hd 7 rfl rfl (by kernel_rfl)).1.trans (factt hF hd 7 rfl rfl (by kernel_rfl)).2
      refine step_do ho' (wanted_free rfl) ?_
      obtain ⟨fg, gq, hg⟩ := factt hF hd 8 rfl rfl (by kernel_rfl)
      have hm_ := dep hd 8 (by kernel_rfl)
      have hj := hF.j
      rw [hg] at fg
      have hj2 := hj.at (k := 0) (by decide) hm_ hg hLi
      refine wp_store_own 22 (.tmp 9) (.tmp 30) rfl gq (B32 (bdig S)) fg f30 hj2.2.2 (B32_sizes _ _) (B32_info _) (B32_one _) rfl ?_
      exact hK undef _ (.inl rfl) (hj.storeA (k := 0) (A := B32 (bdig S)) rfl (by decide) hm_ hg hLi (B32_sizes _ _) (fun i hi => if_off (by decide) hi) (fun i _ hne => if_oth (k := 0) rfl hne) (fun i hi => if_off (by decide) hi) rfl)
    · cases ho
  intro L vs V12 hL hJ hf
  obtain ⟨g13, hgg13⟩ := hf 8 _ _ rfl rfl
  obtain ⟨le0, apg13, owng13⟩ := hJ.gotA (k := 0) (A := B32 (bdig S)) rfl (by decide) (hL 8 (by decide)) hgg13 (hL 9 (by decide))
  have le_g13 := show Hid _ from le0
  clear le0
  have ne_b10_g13 : Hid (b10 ≠ g13) := apg13 (b10, B32 (bdig R), 22) (.head _)
  have ne_b7_g13 : Hid (b7 ≠ g13) := apg13 (b7, B32 (bdig r), 22) (.tail _ (.head _))
  have ne_b3_g13 : Hid (b3 ≠ g13) := apg13 (b3, B32 (bdig hi), 22) (.tail _ (.tail _ (.head _)))
  have ne_b2_g13 : Hid (b2 ≠ g13) := apg13 (b2, B32 (bdig c), 22) (.tail _ (.tail _ (.tail _ (.head _))))
  have ne_bR_g13 : Hid (bR ≠ g13) := apg13 (bR, B64 fun _ => 0, 24) (.tail _ (.tail _ (.tail _ (.tail _ (.head _)))))
  have ne_bA_g13 : Hid (bA ≠ g13) := apg13 (bA, B32 (bdig n), 22) (.tail _ (.tail _ (.tail _ (.tail _ (.tail _ (.head _))))))
  have hK : Kp [(g13, B32 (bdig S), 22), (b10, B32 (bdig R), 22), (b7, B32 (bdig r), 22), (b3, B32 (bdig hi), 22), (b2, B32 (bdig c), 22), (bR, B64 fun _ => 0, 24), (bA, B32 (bdig n), 22)] w V12 := (hJ.1.cons owng13)
  have e0 : vs 0 = _ := hf 0 _ _ rfl rfl
  have e1 : vs 1 = _ := hf 1 _ _ rfl rfl
  have e2 : vs 2 = _ := hf 2 _ _ rfl rfl
  have e3 : vs 3 = _ := hf 3 _ _ rfl rfl
  have e4 : vs 4 = _ := hf 4 _ _ rfl rfl
  have e5 : vs 5 = _ := hf 5 _ _ rfl rfl
  have e6 : vs 6 = _ := hf 6 _ _ rfl rfl
  have e7 : vs 7 = _ := hf 7 _ _ rfl rfl
  simp only [putAll, Nat.zero_add, Nat.reduceAdd, e0, e1, e2, e3, e4, e5, e6, e7, hgg13, Act.put, List.setIfInBounds_toArray, List.set_cons_succ, List.set_cons_zero]
  clear hJ hf hL e0 e1 e2 e3 e4 e5 e6 e7 hgg13 apg13 owng13
  go_upto_region 6 with fail
  have lt_g13 := (hK.at g13 (B32 (bdig S)) 22 (.head _)).lt
  have lt_b10 := (hK.at b10 (B32 (bdig R)) 22 (.tail _ (.head _))).lt
  have lt_b7 := (hK.at b7 (B32 (bdig r)) 22 (.tail _ (.tail _ (.head _)))).lt
  have lt_b3 := (hK.at b3 (B32 (bdig hi)) 22 (.tail _ (.tail _ (.tail _ (.head _))))).lt
  have lt_b2 := (hK.at b2 (B32 (bdig c)) 22 (.tail _ (.tail _ (.tail _ (.tail _ (.head _)))))).lt
  have lt_bR := (hK.at bR (B64 fun _ => 0) 24 (.tail _ (.tail _ (.tail _ (.tail _ (.tail _ (.head _))))))).lt
  have lt_bA := (hK.at bA (B32 (bdig n)) 22 (.tail _ (.tail _ (.tail _ (.tail _ (.tail _ (.tail _ (.head _)))))))).lt
  have le_b14 := show Hid _ from hK.2.size
  have hK := hK.alloc (B64 fun _ => 0) 24
  generalize V12.alloc (.cells (B64 fun _ => 0) 24) = V15 at *
  obtain ⟨b14, Hb14⟩ : ∃ b, Hid (V12.heap.size = b) := ⟨_, rfl⟩
  have ne_g13_b14 : Hid (g13 ≠ b14) := by show _ ≠ _; rw [← Hb14.out]; exact Nat.ne_of_lt lt_g13
  have ne_b10_b14 : Hid (b10 ≠ b14) := by show _ ≠ _; rw [← Hb14.out]; exact Nat.ne_of_lt lt_b10
  have ne_b7_b14 : Hid (b7 ≠ b14) := by show _ ≠ _; rw [← Hb14.out]; exact Nat.ne_of_lt lt_b7
  have ne_b3_b14 : Hid (b3 ≠ b14) := by show _ ≠ _; rw [← Hb14.out]; exact Nat.ne_of_lt lt_b3
  have ne_b2_b14 : Hid (b2 ≠ b14) := by show _ ≠ _; rw [← Hb14.out]; exact Nat.ne_of_lt lt_b2
  have ne_bR_b14 : Hid (bR ≠ b14) := by show _ ≠ _; rw [← Hb14.out]; exact Nat.ne_of_lt lt_bR
  have ne_bA_b14 : Hid (bA ≠ b14) := by show _ ≠ _; rw [← Hb14.out]; exact Nat.ne_of_lt lt_bA
  have le_b14 : Hid (w.heap.size ≤ b14) := by show _ ≤ _; rw [← Hb14.out]; exact le_b14.out
  rw [Hb14.out] at hK ⊢
  clear lt_g13 lt_b10 lt_b7 lt_b3 lt_b2 lt_bR lt_bA
  refine wp_region_vals 38 (by kernel_rfl) (by kernel_rfl) (by rfl) (valSign6 b14 b10) (fun L => Kp [(b14, if L 2 = true then B64 (bdig (two R 0)) else B64 fun _ => 0, 24), (g13, B32 (bdig S), 22), (b10, B32 (bdig R), 22), (b7, B32 (bdig r), 22), (b3, B32 (bdig hi), 22), (b2, B32 (bdig c), 22), (bR, B64 fun _ => 0, 24), (bA, B32 (bdig n), 22)] w) hK.drew ?_ ?_
  · intro L ac wc i o hF hLi ho hd K hK
    rcases i with _ | _ | _ | i
    · have ho' := ho
      obtain rfl := Option.some.inj ho
      have f10 : ac.tmps.getD 10 undef = .pointer (some ⟨b14, 0, none⟩) := slotv hF 0 hLi 10 (by kernel_rfl)
      refine step_do ho' (wanted_free rfl) ?_
      unfold Oper.wp
      go_simp
      exact hK _ _ (.inr rfl) hF.j
    · have ho' := ho
      obtain rfl := Option.some.inj ho
      have f8 : ac.tmps.getD 8 undef = .pointer (some ⟨b10, 0, none⟩) := slotv hF 1 hLi 8 (by kernel_rfl)
      refine step_do ho' (wanted_free rfl) ?_
      unfold Oper.wp
      go_simp
      exact hK _ _ (.inr rfl) hF.j
    · have ho' := ho
      obtain rfl := Option.some.inj ho
      have f31 : ac.tmps.getD 31 undef = .slice (some ⟨b14, 0, none⟩) 32 64 := valv hF hd 0 rfl rfl (by kernel_rfl)
      have f32 : ac.tmps.getD 32 undef = .slice (some ⟨b10, 0, none⟩) 32 32 := valv hF hd 1 rfl rfl (by kernel_rfl)
      refine step_do ho' (wanted_free rfl) ?_
      have hjo := hF.j
      rw [hLi] at hjo
      have hjo : Own wc b14 (B64 fun _ => 0) 24 := hjo.at b14 (B64 fun _ => 0) 24 (.head _)
      have hrg : wc.rangeAt b10 0 (B32 (bdig R)).toList := (hF.j.at b10 (B32 (bdig R)) 22 (.tail _ (.tail _ (.head _)))).range
      refine wp_copy_at (.tmp 31) (.tmp 32) 23 23 rfl 5 Tryd.underlying23 infoU8s b14 0 32 64 b10 0 32 32 f31 f32 hjo _ hrg (by rw [B32_len0]; rfl) (by rw [B32_len0, B64_size]; decide) (B32_ones _) ?_
      rw [join_lo lR.out, B32_len0]
      have hj := hF.j
      rw [hLi] at hj
      have hj : Kp [(b14, B64 fun _ => 0, 24), (g13, B32 (bdig S), 22), (b10, B32 (bdig R), 22), (b7, B32 (bdig r), 22), (b3, B32 (bdig hi), 22), (b2, B32 (bdig c), 22), (bR, B64 fun _ => 0, 24), (bA, B32 (bdig n), 22)] w wc := hj
      have hj : Kp [(b14, B64 fun _ => 0, 24), (g13, B32 (bdig S), 22), (b10, B32 (bdig R), 22), (b7, B32 (bdig r), 22), (b3, B32 (bdig hi), 22), (b2, B32 (bdig c), 22), (bR, B64 fun _ => 0, 24), (bA, B32 (bdig n), 22)] w wc := ((((((((hj.none.cons (hj.at bA (B32 (bdig n)) 22 (.tail _ (.tail _ (.tail _ (.tail _ (.tail _ (.tail _ (.tail _ (.head _)))))))))).cons (hj.at bR (B64 fun _ => 0) 24 (.tail _ (.tail _ (.tail _ (.tail _ (.tail _ (.tail _ (.head _))))))))).cons (hj.at b2 (B32 (bdig c)) 22 (.tail _ (.tail _ (.tail _ (.tail _ (.tail _ (.head _)))))))).cons (hj.at b3 (B32 (bdig hi)) 22 (.tail _ (.tail _ (.tail _ (.tail _ (.head _))))))).cons (hj.at b7 (B32 (bdig r)) 22 (.tail _ (.tail _ (.tail _ (.head _)))))).cons (hj.at b10 (B32 (bdig R)) 22 (.tail _ (.tail _ (.head _))))).cons (hj.at g13 (B32 (bdig S)) 22 (.tail _ (.head _)))).cons (hj.at b14 (B64 fun _ => 0) 24 (.head _)))
      have hj := Kp.row (A' := B64 (bdig (two R 0))) hj (by simp only [List.forall_mem_cons, List.not_mem_nil, false_implies, implies_true, and_true]; exact ⟨ne_g13_b14.out, ne_b10_b14.out, ne_b7_b14.out, ne_b3_b14.out, ne_b2_b14.out, ne_bR_b14.out, ne_bA_b14.out⟩) le_b14.out
      exact hK _ _ (.inr rfl) ((((((((hj.none.cons (hj.at bA (B32 (bdig n)) 22 (.tail _ (.tail _ (.tail _ (.tail _ (.tail _ (.tail _ (.tail _ (.head _)))))))))).cons (hj.at bR (B64 fun _ => 0) 24 (.tail _ (.tail _ (.tail _ (.tail _ (.tail _ (.tail _ (.head _))))))))).cons (hj.at b2 (B32 (bdig c)) 22 (.tail _ (.tail _ (.tail _ (.tail _ (.tail _ (.head _)))))))).cons (hj.at b3 (B32 (bdig hi)) 22 (.tail _ (.tail _ (.tail _ (.tail _ (.head _))))))).cons (hj.at b7 (B32 (bdig r)) 22 (.tail _ (.tail _ (.tail _ (.head _)))))).cons (hj.at b10 (B32 (bdig R)) 22 (.tail _ (.tail _ (.head _))))).cons (hj.at g13 (B32 (bdig S)) 22 (.tail _ (.head _)))).cons (hj.at b14 (B64 (bdig (two R 0))) 24 (.head _)))
    · cases ho
  intro L V16 hL hKq
  rw [hL 2 (by decide)] at hKq
  have hK : Kp [(b14, B64 (bdig (two R 0)), 24), (g13, B32 (bdig S), 22), (b10, B32 (bdig R), 22), (b7, B32 (bdig r), 22), (b3, B32 (bdig hi), 22), (b2, B32 (bdig c), 22), (bR, B64 fun _ => 0, 24), (bA, B32 (bdig n), 22)] w V16 := hKq
  clear hKq hL
  simp only [putAll, valSign6, Act.put, List.setIfInBounds_toArray, List.set_cons_succ, List.set_cons_zero]
  go_upto_region 7 with fail
  refine wp_region_vals 38 (by kernel_rfl) (by kernel_rfl) (by rfl) (valSign7 b14 g13) (fun L => Kp [(b14, if L 2 = true then B64 (bdig (two R S)) else B64 (bdig (two R 0)), 24), (g13, B32 (bdig S), 22), (b10, B32 (bdig R), 22), (b7, B32 (bdig r), 22), (b3, B32 (bdig hi), 22), (b2, B32 (bdig c), 22), (bR, B64 fun _ => 0, 24), (bA, B32 (bdig n), 22)] w) hK.drew ?_ ?_
  · intro L ac wc i o hF hLi ho hd K hK
    rcases i with _ | _ | _ | i
    · have ho' := ho
      obtain rfl := Option.some.inj ho
      have f10 : ac.tmps.getD 10 undef = .pointer (some ⟨b14, 0, none⟩) := slotv hF 0 hLi 10 (by kernel_rfl)
      refine step_do ho' (wanted_free rfl) ?_
      unfold Oper.wp
      go_simp
      exact hK _ _ (.inr rfl) hF.j
    · have ho' := ho
      obtain rfl := Option.some.inj ho
      have f9 : ac.tmps.getD 9 undef = .pointer (some ⟨g13, 0, none⟩) := slotv hF 1 hLi 9 (by kernel_rfl)
      refine step_do ho' (wanted_free rfl) ?_
      unfold Oper.wp
      go_simp
      exact hK _ _ (.inr rfl) hF.j
    · have ho' := ho
      obtain rfl := Option.some.inj ho
      have f34 : ac.tmps.getD 34 undef = .slice (some ⟨b14, 32, none⟩) 32 32 := valv hF hd 0 rfl rfl (by kernel_rfl)
      have f35 : ac.tmps.getD 35 undef = .slice (some ⟨g13, 0, none⟩) 32 32 := valv hF hd 1 rfl rfl (by kernel_rfl)
      refine step_do ho' (wanted_free rfl) ?_
      have hjo := hF.j
      rw [hLi] at hjo
      have hjo : Own wc b14 (B64 (bdig (two R 0))) 24 := hjo.at b14 (B64 (bdig (two R 0))) 24 (.head _)
      have hrg : wc.rangeAt g13 0 (B32 (bdig S)).toList := (hF.j.at g13 (B32 (bdig S)) 22 (.tail _ (.head _))).range
      refine wp_copy_at (.tmp 34) (.tmp 35) 23 23 rfl 5 Tryd.underlying23 infoU8s b14 32 32 32 g13 0 32 32 f34 f35 hjo _ hrg (by rw [B32_len0]; rfl) (by rw [B32_len0, B64_size]; decide) (B32_ones _) ?_
      rw [join_hi lR.out S, B32_len0]
      have hj := hF.j
      rw [hLi] at hj
      have hj : Kp [(b14, B64 (bdig (two R 0)), 24), (g13, B32 (bdig S), 22), (b10, B32 (bdig R), 22), (b7, B32 (bdig r), 22), (b3, B32 (bdig hi), 22), (b2, B32 (bdig c), 22), (bR, B64 fun _ => 0, 24), (bA, B32 (bdig n), 22)] w wc := hj
      have hj : Kp [(b14, B64 (bdig (two R 0)), 24), (g13, B32 (bdig S), 22), (b10, B32 (bdig R), 22), (b7, B32 (bdig r), 22), (b3, B32 (bdig hi), 22), (b2, B32 (bdig c), 22), (bR, B64 fun _ => 0, 24), (bA, B32 (bdig n), 22)] w wc := ((((((((hj.none.cons (hj.at bA (B32 (bdig n)) 22 (.tail _ (.tail _ (.tail _ (.tail _ (.tail _ (.tail _ (.tail _ (.head _)))))))))).cons (hj.at bR (B64 fun _ => 0) 24 (.tail _ (.tail _ (.tail _ (.tail _ (.tail _ (.tail _ (.head _))))))))).cons (hj.at b2 (B32 (bdig c)) 22 (.tail _ (.tail _ (.tail _ (.tail _ (.tail _ (.head _)))))))).cons (hj.at b3 (B32 (bdig hi)) 22 (.tail _ (.tail _ (.tail _ (.tail _ (.head _))))))).cons (hj.at b7 (B32 (bdig r)) 22 (.tail _ (.tail _ (.tail _ (.head _)))))).cons (hj.at b10 (B32 (bdig R)) 22 (.tail _ (.tail _ (.head _))))).cons (hj.at g13 (B32 (bdig S)) 22 (.tail _ (.head _)))).cons (hj.at b14 (B64 (bdig (two R 0))) 24 (.head _)))
      have hj := Kp.row (A' := B64 (bdig (two R S))) hj (by simp only [List.forall_mem_cons, List.not_mem_nil, false_implies, implies_true, and_true]; exact ⟨ne_g13_b14.out, ne_b10_b14.out, ne_b7_b14.out, ne_b3_b14.out, ne_b2_b14.out, ne_bR_b14.out, ne_bA_b14.out⟩) le_b14.out
      exact hK _ _ (.inr rfl) ((((((((hj.none.cons (hj.at bA (B32 (bdig n)) 22 (.tail _ (.tail _ (.tail _ (.tail _ (.tail _ (.tail _ (.tail _ (.head _)))))))))).cons (hj.at bR (B64 fun _ => 0) 24 (.tail _ (.tail _ (.tail _ (.tail _ (.tail _ (.tail _ (.head _))))))))).cons (hj.at b2 (B32 (bdig c)) 22 (.tail _ (.tail _ (.tail _ (.tail _ (.tail _ (.head _)))))))).cons (hj.at b3 (B32 (bdig hi)) 22 (.tail _ (.tail _ (.tail _ (.tail _ (.head _))))))).cons (hj.at b7 (B32 (bdig r)) 22 (.tail _ (.tail _ (.tail _ (.head _)))))).cons (hj.at b10 (B32 (bdig R)) 22 (.tail _ (.tail _ (.head _))))).cons (hj.at g13 (B32 (bdig S)) 22 (.tail _ (.head _)))).cons (hj.at b14 (B64 (bdig (two R S))) 24 (.head _)))
    · cases ho
  intro L V17 hL hKq
  rw [hL 2 (by decide)] at hKq
  have hK : Kp [(b14, B64 (bdig (two R S)), 24), (g13, B32 (bdig S), 22), (b10, B32 (bdig R), 22), (b7, B32 (bdig r), 22), (b3, B32 (bdig hi), 22), (b2, B32 (bdig c), 22), (bR, B64 fun _ => 0, 24), (bA, B32 (bdig n), 22)] w V17 := hKq
  clear hKq hL
  simp only [putAll, valSign7, Act.put, List.setIfInBounds_toArray, List.set_cons_succ, List.set_cons_zero]
  go_wp2_with (first
    | refine wpList_load_own (by rfl) 24 (.tmp 10) (by rfl) b14 (by rfl) (B64 (bdig (two R S))) _ (hK.at b14 (B64 (bdig (two R S))) 24 (.head _)) Tryd.underlying24 (by rfl) (B64_info _) ?_
    | refine wpList_store_own (op := { dst := none, op := _, type := _, pos := _, after := _, guard := _ }) rfl 24 (.tmp 4) (.tmp 37) rfl bR 0 (B64 (bdig (two R S))) (by rfl) (by rfl) (hK.at bR (B64 fun _ => 0) 24 (.tail _ (.tail _ (.tail _ (.tail _ (.tail _ (.tail _ (.head _)))))))) (B64_le _ _) (B64_info _) (B64_one _) (by rfl) ?_)
  exact bodyPost_ret (results_own Tryd.results12 _ _ bR (B64 (bdig (two R S))) _ (by rfl) (own_setCells (hK.at bR (B64 fun _ => 0) 24 (.tail _ (.tail _ (.tail _ (.tail _ (.tail _ (.tail _ (.head _)))))))) (B64_sizes _ _)) Tryd.underlying24 rfl (B64_info _)) rfl ⟨rfl, Below.setCells _ _ _ _ le_bR.out hK.2⟩
end Go.Proofs.YtfkcphbbabaefaaDoor
