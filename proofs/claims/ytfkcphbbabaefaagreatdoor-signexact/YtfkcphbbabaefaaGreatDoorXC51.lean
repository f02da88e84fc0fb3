/- Of the texts SV1: what the card of this claim reaches. -/
import Derived.Test.YtfkcphbbabaefaaGreatDoorXC49
namespace Go.Proofs.YtfkcphbbabaefaaGreatDoor
open Go Go.RowKit
def factVer1 (R S bS : Nat) : Nat → Value → Prop
  | 0, vq => vq = .slice (some ⟨bS, 0, none⟩) 32 64
  | 1, vq => vq = .pointer (some ⟨bS, 0, none⟩)
  | 2, vq => vq = .agg (B32 (bdig R))
  | 3, vq => vq = .slice (some ⟨bS, 32, none⟩) 32 32
  | 4, vq => vq = .pointer (some ⟨bS, 32, none⟩)
  | 5, vq => vq = .agg (B32 (bdig S))
  | 6, vq => ∃ g, vq = .pointer (some ⟨g, 0, none⟩)
  | 7, vq => ∃ g, vq = .pointer (some ⟨g, 0, none⟩)
  | _, _ => True
def factVer4 (p R k : Nat) (f : Nat → Nat) (e1 : Int) (ta : Option Addr) (tc : Nat) (m : List Int) : Nat → Value → Prop
  | 0, vq => vq = .agg (B32 (bdig R))
  | 1, vq => vq = .agg (B32 (bdig p))
  | 2, vq => vq = .slice ta m.length tc
  | 3, vq => vq = .agg (B32 (bdig k))
  | 4, vq => vq = .agg (B32 (bdig p))
  | 5, vq => vq = .tuple #[.agg (B32 f), .int .i64 (e1)]
  | 6, vq => vq = .tuple #[.agg (B32 f), .int .i64 (e1)]
  | 7, vq => vq = .agg (B32 f)
  | 8, vq => vq = .int .i64 (e1)
  | 11, vq => vq = .int .i64 (e1)
  | 9, vq => ∃ g, vq = .pointer (some ⟨g, 0, none⟩)
  | _, _ => True
def valVer8n : Nat → Value
  | 0 => .int .i64 (1)
  | 1 => .bool false
  | 2 => .bool false
  | 3 => undef
  | 4 => undef
  | 5 => undef
  | 6 => undef
  | 7 => .bool false
  | 8 => .bool false
  | _ => undef
def valVer8 (S t : Nat) (g : Nat → Nat) (v0 : Bool) : Nat → Value
  | 0 => .int .i64 (0)
  | 1 => .bool true
  | 2 => .bool true
  | 3 => .agg (B32 g)
  | 4 => .agg (B32 (bdig S))
  | 5 => .agg (B32 (bdig t))
  | 6 => .bool v0
  | 7 => .bool v0
  | 8 => .bool v0
  | _ => undef
set_option maxRecDepth 100000 in
set_option maxHeartbeats 600000 in
theorem verify_gen {T : World → Prop} (F : Low T) {p R S k t : Nat} {f g : Nat → Nat} {e1 e2 : Int} {b0 v0 v : Bool} {ta : Option Addr} {tc : Nat} {m : List Int} (lR : Hid (R < R256)) (lS : Hid (S < R256)) (Hk : Hid (dn (by32 R ++ (by32 p ++ m)) % LL = k)) (hS : Hid (decide (S < LL) = b0))
    (hM : Hid (∀ w, T w → Calls Tryz.prog 29 #[.agg (B32 (bdig k)), .agg (B32 (bdig p))] w fun x w' => x = .returned (.tuple #[.agg (B32 f), .int .i64 e1]) ∧ Below w.heap.size w w')) (hA : Hid (e1 = 0 → (∀ w, T w → Calls Tryz.prog 30 #[.agg (B32 (bdig R)), .agg (B32 f)] w fun x w' => x = .returned (.tuple #[.agg (B32 g), .int .i64 e2]) ∧ Below w.heap.size w w')))
    (Ht : Hid (enc (Pt.times S BP) = t)) (heq : ∀ w, (Op.equalIn 10000 22 (.agg (B32 g)) (.agg (B32 (bdig t)))).run Tryz.prog w = .ok v0 w)
    (h0 : Hid (b0 = false → v = false)) (h1 : Hid ((e1 = 1 ∧ v = false) ∨ (e1 = 0 ∧ ((e2 = 1 ∧ v = false) ∨ (e2 = 0 ∧ (b0 = true → v0 = v)))))) (hl : m.length ≤ 1000) (w : World) (hT : T w) (hm : Txt w ta tc m) : Calls Tryz.prog 10 #[.agg (B32 (bdig p)), .slice ta m.length tc, .agg (B64 (bdig (two R S)))] w fun x w' => x = .returned (.bool v) ∧ Below w.heap.size w w' := by
  have hz := (zero_of_info zeroB32).1
  go_enter Tryz.func10, Tryz.ntmps10
  go_upto_region 1 with fail
  have hK := ((Kp.nil w).alloc (B32 (bdig p)) 22).alloc (B64 (bdig (two R S))) 26
  rw [World.size_alloc] at hK
  generalize (w.alloc (.cells (B32 (bdig p)) 22)).alloc (.cells (B64 (bdig (two R S))) 26) = W at *
  obtain ⟨bA, HbA⟩ : ∃ b, Hid (w.heap.size = b) := ⟨_, rfl⟩
  obtain ⟨bS, HbS⟩ : ∃ b, Hid (bA + 1 = b) := ⟨_, rfl⟩
  have le_bA : Hid (w.heap.size ≤ bA) := by show _ ≤ _; have := HbA.out; omega
  have le_bS : Hid (w.heap.size ≤ bS) := by show _ ≤ _; have := HbA.out; have := HbS.out; omega
  have ne_bA_bS : Hid (bA ≠ bS) := by show _ ≠ _; have := HbS.out; omega
  rw [HbA.out, HbS.out] at hK ⊢
  refine wp_region_told 46 (by kernel_rfl) (by kernel_rfl) (by rfl) (factVer1 R S bS) (fun L vs => MkN 2 [(bS, B64 (bdig (two R S)), 26), (bA, B32 (bdig p), 22)] w (pick2 (B32 fun _ => 0) (B32 fun _ => 0)) (pick2 (B32 (bdig R)) (B32 (bdig S))) (pick2 (22) (22)) (fun i => L (6 + i)) (fun i => L (8 + i)) (fun i => vs (6 + i))) (fun _ => MkN.drew hK (fun _ _ => rfl)) ?_ ?_
  · intro L vs ac wc i o hF hLi ho hd K hK
    rcases i with _ | _ | _ | _ | _ | _ | _ | _ | _ | _ | i
    · have ho' := ho
      obtain rfl := Option.some.inj ho
      have f5 : ac.tmps.getD 5 undef = .pointer (some ⟨bS, 0, none⟩) := slott hF 0 hLi 5 (by kernel_rfl)
      refine step_do ho' (wanted_free rfl) ?_
      unfold Oper.wp
      go_simp
      exact hK _ _ (.inr rfl) (hF.j.congr (fun i hi => if_off (by decide) hi) (fun i hi => if_off (by decide) hi) (fun i hi => if_off (by decide) hi))
    · have ho' := ho
      obtain rfl := Option.some.inj ho
      have f12 : ac.tmps.getD 12 undef = .slice (some ⟨bS, 0, none⟩) 32 64 := (factt hF hd 0 rfl rfl (by kernel_rfl)).1.trans (factt hF hd 0 rfl rfl (by kernel_rfl)).2
      refine step_do ho' (wanted_free rfl) ?_
      unfold Oper.wp
      go_simp
      exact hK _ _ (.inr rfl) (hF.j.congr (fun i hi => if_off (by decide) hi) (fun i hi => if_off (by decide) hi) (fun i hi => if_off (by decide) hi))
    · have ho' := ho
      obtain rfl := Option.some.inj ho
      have f13 : ac.tmps.getD 13 undef = .pointer (some ⟨bS, 0, none⟩) := (factt hF hd 1 rfl rfl (by kernel_rfl)).1.trans (factt hF hd 1 rfl rfl (by kernel_rfl)).2
      refine step_do ho' (wanted_free rfl) ?_
      exact wp_load_mid 22 (.tmp 13) rfl bS 0 f13 (B32 (bdig R)).toList _ (B64_lo2 lR.out (hF.j.1.at bS (B64 (bdig (two R S))) 26 (.head _))) Tryz.underlying22 rfl (B32_len7 _) (hK _ _ (.inr rfl) (hF.j.congr (fun i hi => if_off (by decide) hi) (fun i hi => if_off (by decide) hi) (fun i hi => if_off (by decide) hi)))
    · have ho' := ho
      obtain rfl := Option.some.inj ho
      have f5 : ac.tmps.getD 5 undef = .pointer (some ⟨bS, 0, none⟩) := slott hF 3 hLi 5 (by kernel_rfl)
      refine step_do ho' (wanted_free rfl) ?_
      unfold Oper.wp
      go_simp
      exact hK _ _ (.inr rfl) (hF.j.congr (fun i hi => if_off (by decide) hi) (fun i hi => if_off (by decide) hi) (fun i hi => if_off (by decide) hi))
    · have ho' := ho
      obtain rfl := Option.some.inj ho
      have f15 : ac.tmps.getD 15 undef = .slice (some ⟨bS, 32, none⟩) 32 32 := (factt hF hd 3 rfl rfl (by kernel_rfl)).1.trans (factt hF hd 3 rfl rfl (by kernel_rfl)).2
      refine step_do ho' (wanted_free rfl) ?_
      unfold Oper.wp
      go_simp
      exact hK _ _ (.inr rfl) (hF.j.congr (fun i hi => if_off (by decide) hi) (fun i hi => if_off (by decide) hi) (fun i hi => if_off (by decide) hi))
    · have ho' := ho
      obtain rfl := Option.some.inj ho
      have f16 : ac.tmps.getD 16 undef = .pointer (some ⟨bS, 32, none⟩) := (factt hF hd 4 rfl rfl (by kernel_rfl)).1.trans (factt hF hd 4 rfl rfl (by kernel_rfl)).2
      refine step_do ho' (wanted_free rfl) ?_
      exact wp_load_mid 22 (.tmp 16) rfl bS 32 f16 (B32 (bdig S)).toList _ (B64_hi2 lR.out (hF.j.1.at bS (B64 (bdig (two R S))) 26 (.head _))) Tryz.underlying22 rfl (B32_len7 _) (hK _ _ (.inr rfl) (hF.j.congr (fun i hi => if_off (by decide) hi) (fun i hi => if_off (by decide) hi) (fun i hi => if_off (by decide) hi)))
    · have ho' := ho
      obtain rfl := Option.some.inj ho
      refine step_do ho' (wanted_free rfl) ?_
      have hs := notyett hF 6 hLi 8 rfl (by kernel_rfl)
      unfold Oper.wp
      go_simp
      exact hK _ _ (.inr ⟨_, rfl⟩) (hF.j.alloc 0 (fun i _ hne => if_oth (k := 0) rfl hne) (fun i hi => if_off (by decide) hi) (fun i _ hne => if_oth (k := 0) rfl hne) rfl hs)
    · have ho' := ho
      obtain rfl := Option.some.inj ho
      refine step_do ho' (wanted_free rfl) ?_
      have hs := notyett hF 7 hLi 9 rfl (by kernel_rfl)
      unfold Oper.wp
      go_simp
      exact hK _ _ (.inr ⟨_, rfl⟩) (hF.j.alloc 1 (fun i _ hne => if_oth (k := 1) rfl hne) (fun i hi => if_off (by decide) hi) (fun i _ hne => if_oth (k := 1) rfl hne) rfl hs)
    · have ho' := ho
      obtain rfl := Option.some.inj ho
      have f14 : ac.tmps.getD 14 undef = .agg (B32 (bdig R)) := (factt hF hd 2 rfl rfl (by kernel_rfl)).1.trans (factt hF hd 2 rfl rfl (by kernel_rfl)).2
      refine step_do ho' (wanted_free rfl) ?_
      obtain ⟨fg, gq, hg⟩ := factt hF hd 6 rfl rfl (by kernel_rfl)
      have hm_ := dep hd 6 (by kernel_rfl)
      have hj := hF.j
      rw [hg] at fg
      have hj2 := hj.at (k := 0) (by decide) hm_ hg hLi
      refine wp_store_own 22 (.tmp 7) (.tmp 14) rfl gq (B32 (bdig R)) fg f14 hj2.2.2 (B32_sizes _ _) (B32_info _) (B32_one _) rfl ?_
      exact hK undef _ (.inl rfl) (hj.storeA (k := 0) (A := B32 (bdig R)) rfl (by decide) hm_ hg hLi (B32_sizes _ _) (fun i hi => if_off (by decide) hi) (fun i _ hne => if_oth (k := 0) rfl hne) (fun i hi => if_off (by decide) hi) rfl)
    · have ho' := ho
      obtain rfl := Option.some.inj ho
      have f17 : ac.tmps.getD 17 undef = .agg (B32 (bdig S)) := (factt hF hd 5 rfl rfl (by kernel_rfl)).1.trans (factt hF hd 5 rfl rfl (by kernel_rfl)).2
      refine step_do ho' (wanted_free rfl) ?_
      obtain ⟨fg, gq, hg⟩ := factt hF hd 7 rfl rfl (by kernel_rfl)
      have hm_ := dep hd 7 (by kernel_rfl)
      have hj := hF.j
      rw [hg] at fg
      have hj2 := hj.at (k := 1) (by decide) hm_ hg hLi
      refine wp_store_own 22 (.tmp 8) (.tmp 17) rfl gq (B32 (bdig S)) fg f17 hj2.2.2 (B32_sizes _ _) (B32_info _) (B32_one _) rfl ?_
      exact hK undef _ (.inl rfl) (hj.storeA (k := 1) (A := B32 (bdig S)) rfl (by decide) hm_ hg hLi (B32_sizes _ _) (fun i hi => if_off (by decide) hi) (fun i _ hne => if_oth (k := 1) rfl hne) (fun i hi => if_off (by decide) hi) rfl)
    · cases ho
  intro L vs V1 hL hJ hf
  obtain ⟨g2, hgg2⟩ := hf 6 _ _ rfl rfl
  obtain ⟨le0, apg2, owng2⟩ := hJ.gotA (k := 0) (A := B32 (bdig R)) rfl (by decide) (hL 6 (by decide)) hgg2 (hL 8 (by decide))
  have le_g2 := show Hid _ from le0
  clear le0
  obtain ⟨g3, hgg3⟩ := hf 7 _ _ rfl rfl
  obtain ⟨le0, apg3, owng3⟩ := hJ.gotA (k := 1) (A := B32 (bdig S)) rfl (by decide) (hL 7 (by decide)) hgg3 (hL 9 (by decide))
  have le_g3 := show Hid _ from le0
  clear le0
  have ne_g2_g3 : Hid (g2 ≠ g3) := hJ.apart (i := 0) (j := 1) (by decide) (by decide) (by decide) (hL 6 (by decide)) (hL 7 (by decide)) hgg2 hgg3
  have ne_bS_g2 : Hid (bS ≠ g2) := apg2 (bS, B64 (bdig (two R S)), 26) (.head _)
  have ne_bA_g2 : Hid (bA ≠ g2) := apg2 (bA, B32 (bdig p), 22) (.tail _ (.head _))
  have ne_bS_g3 : Hid (bS ≠ g3) := apg3 (bS, B64 (bdig (two R S)), 26) (.head _)
  have ne_bA_g3 : Hid (bA ≠ g3) := apg3 (bA, B32 (bdig p), 22) (.tail _ (.head _))
  have hK : Kp [(g3, B32 (bdig S), 22), (g2, B32 (bdig R), 22), (bS, B64 (bdig (two R S)), 26), (bA, B32 (bdig p), 22)] w V1 := ((hJ.1.cons owng2).cons owng3)
  have e0 : vs 0 = _ := hf 0 _ _ rfl rfl
  have e1 : vs 1 = _ := hf 1 _ _ rfl rfl
  have e2 : vs 2 = _ := hf 2 _ _ rfl rfl
  have e3 : vs 3 = _ := hf 3 _ _ rfl rfl
  have e4 : vs 4 = _ := hf 4 _ _ rfl rfl
  have e5 : vs 5 = _ := hf 5 _ _ rfl rfl
  simp only [putAll, Nat.zero_add, Nat.reduceAdd, e0, e1, e2, e3, e4, e5, hgg2, hgg3, Act.put, List.setIfInBounds_toArray, List.set_cons_succ, List.set_cons_zero]
  clear hJ hf hL e0 e1 e2 e3 e4 e5 hgg2 hgg3 apg2 apg3 owng2 owng3
  go_wp2_with (refine wpList_load_own (by rfl) 22 (.tmp 8) (by rfl) g3 (by rfl) (B32 (bdig S)) _ (hK.at g3 (B32 (bdig S)) 22 (.head _)) Tryz.underlying22 (by rfl) (B32_info _) ?_)
  refine (F.scheckA lS.out hS.out _ (F.keep _ _ hT hK.2)).mono ?_
  rintro e V4 ⟨rfl, bw⟩
  have hK := hK.below bw
  clear bw
  cases b0
  · go_wp2_with fail
    go_ret
    exact ⟨by first | rfl | (rw [h0.out (by simp)]; rfl), hK.2⟩
  go_upto_region 4 with fail
  refine wp_region_told 46 (by kernel_rfl) (by kernel_rfl) (by rfl) (factVer4 p R k f e1 ta tc m) (fun L vs => MkN 1 [(g3, B32 (bdig S), 22), (g2, B32 (bdig R), 22), (bS, B64 (bdig (two R S)), 26), (bA, B32 (bdig p), 22)] w (fun _ => B32 fun _ => 0) (fun _ => B32 f) (fun _ => 22) (fun i => L (9 + i)) (fun i => L (10 + i)) (fun i => vs (9 + i))) (fun _ => MkN.drew hK (fun _ _ => rfl)) ?_ ?_
  · intro L vs ac wc i o hF hLi ho hd K hK
    rcases i with _ | _ | _ | _ | _ | _ | _ | _ | _ | _ | _ | _ | i
    · have ho' := ho
      obtain rfl := Option.some.inj ho
      have f7 : ac.tmps.getD 7 undef = .pointer (some ⟨g2, 0, none⟩) := slott hF 0 hLi 7 (by kernel_rfl)
      refine step_do ho' (wanted_free rfl) ?_
      exact wp_load_own 22 (.tmp 7) rfl g2 f7 (B32 (bdig R)) _ 22 (hF.j.1.at g2 (B32 (bdig R)) 22 (.tail _ (.head _))) Tryz.underlying22 rfl (B32_info _) (hK _ _ (.inr rfl) (hF.j.congr (fun i hi => if_off (by decide) hi) (fun i hi => if_off (by decide) hi) (fun i hi => if_off (by decide) hi)))
    · have ho' := ho
      obtain rfl := Option.some.inj ho
      have f3 : ac.tmps.getD 3 undef = .pointer (some ⟨bA, 0, none⟩) := slott hF 1 hLi 3 (by kernel_rfl)
      refine step_do ho' (wanted_free rfl) ?_
      exact wp_load_own 22 (.tmp 3) rfl bA f3 (B32 (bdig p)) _ 22 (hF.j.1.at bA (B32 (bdig p)) 22 (.tail _ (.tail _ (.tail _ (.head _))))) Tryz.underlying22 rfl (B32_info _) (hK _ _ (.inr rfl) (hF.j.congr (fun i hi => if_off (by decide) hi) (fun i hi => if_off (by decide) hi) (fun i hi => if_off (by decide) hi)))
    · have ho' := ho
      obtain rfl := Option.some.inj ho
      have f1 : ac.tmps.getD 1 undef = .slice ta m.length tc := slott hF 2 hLi 1 (by kernel_rfl)
      refine step_do ho' (wanted_free rfl) ?_
      unfold Oper.wp
      go_simp
      exact hK _ _ (.inr rfl) (hF.j.congr (fun i hi => if_off (by decide) hi) (fun i hi => if_off (by decide) hi) (fun i hi => if_off (by decide) hi))
    · have ho' := ho
      obtain rfl := Option.some.inj ho
      have f22 : ac.tmps.getD 22 undef = .agg (B32 (bdig R)) := (factt hF hd 0 rfl rfl (by kernel_rfl)).1.trans (factt hF hd 0 rfl rfl (by kernel_rfl)).2
      have f23 : ac.tmps.getD 23 undef = .agg (B32 (bdig p)) := (factt hF hd 1 rfl rfl (by kernel_rfl)).1.trans (factt hF hd 1 rfl rfl (by kernel_rfl)).2
      have f24 : ac.tmps.getD 24 undef = .slice ta m.length tc := (factt hF hd 2 rfl rfl (by kernel_rfl)).1.trans (factt hF hd 2 rfl rfl (by kernel_rfl)).2
      refine step_do ho' (wanted_free rfl) ?_
      unfold Oper.wp
      go_simp
      refine (bound_at F Hk hl _ (F.keep _ _ hT hF.j.1.2) (hm.below hF.j.1.2)).mono ?_
      rintro e w' ⟨rfl, hB⟩
      exact hK _ _ (.inr rfl) (((hF.j.congr (fun i hi => if_off (by decide) hi) (fun i hi => if_off (by decide) hi) (fun i hi => if_off (by decide) hi))).below hB)
    · have ho' := ho
      obtain rfl := Option.some.inj ho
      have f3 : ac.tmps.getD 3 undef = .pointer (some ⟨bA, 0, none⟩) := slott hF 4 hLi 3 (by kernel_rfl)
      refine step_do ho' (wanted_free rfl) ?_
      exact wp_load_own 22 (.tmp 3) rfl bA f3 (B32 (bdig p)) _ 22 (hF.j.1.at bA (B32 (bdig p)) 22 (.tail _ (.tail _ (.tail _ (.head _))))) Tryz.underlying22 rfl (B32_info _) (hK _ _ (.inr rfl) (hF.j.congr (fun i hi => if_off (by decide) hi) (fun i hi => if_off (by decide) hi) (fun i hi => if_off (by decide) hi)))
    · have ho' := ho
      obtain rfl := Option.some.inj ho
      have f25 : ac.tmps.getD 25 undef = .agg (B32 (bdig k)) := (factt hF hd 3 rfl rfl (by kernel_rfl)).1.trans (factt hF hd 3 rfl rfl (by kernel_rfl)).2
      have f26 : ac.tmps.getD 26 undef = .agg (B32 (bdig p)) := (factt hF hd 4 rfl rfl (by kernel_rfl)).1.trans (factt hF hd 4 rfl rfl (by kernel_rfl)).2
      refine step_do ho' (wanted_free rfl) ?_
      unfold Oper.wp
      go_simp
      refine (hM.out _ (F.keep _ _ hT hF.j.1.2)).mono ?_
      rintro e w' ⟨rfl, hB⟩
      exact hK _ _ (.inr rfl) (((hF.j.congr (fun i hi => if_off (by decide) hi) (fun i hi => if_off (by decide) hi) (fun i hi => if_off (by decide) hi))).below hB)
    · have ho' := ho
      obtain rfl := Option.some.inj ho
      have f27 : ac.tmps.getD 27 undef = .tuple #[.agg (B32 f), .int .i64 (e1)] := (factt hF hd 5 rfl rfl (by kernel_rfl)).1.trans (factt hF hd 5 rfl rfl (by kernel_rfl)).2
      refine step_do ho' (wanted_free rfl) ?_
      unfold Oper.wp
      go_simp
      exact hK _ _ (.inr rfl) (hF.j.congr (fun i hi => if_off (by decide) hi) (fun i hi => if_off (by decide) hi) (fun i hi => if_off (by decide) hi))
    · have ho' := ho
      obtain rfl := Option.some.inj ho
      have f21 : ac.tmps.getD 21 undef = .tuple #[.agg (B32 f), .int .i64 (e1)] := (factt hF hd 6 rfl rfl (by kernel_rfl)).1.trans (factt hF hd 6 rfl rfl (by kernel_rfl)).2
      refine step_do ho' (wanted_free rfl) ?_
      unfold Oper.wp
      go_simp
      exact hK _ _ (.inr rfl) (hF.j.congr (fun i hi => if_off (by decide) hi) (fun i hi => if_off (by decide) hi) (fun i hi => if_off (by decide) hi))
    · have ho' := ho
      obtain rfl := Option.some.inj ho
      have f21 : ac.tmps.getD 21 undef = .tuple #[.agg (B32 f), .int .i64 (e1)] := (factt hF hd 6 rfl rfl (by kernel_rfl)).1.trans (factt hF hd 6 rfl rfl (by kernel_rfl)).2
      refine step_do ho' (wanted_free rfl) ?_
      unfold Oper.wp
      go_simp
      exact hK _ _ (.inr rfl) (hF.j.congr (fun i hi => if_off (by decide) hi) (fun i hi => if_off (by decide) hi) (fun i hi => if_off (by decide) hi))
    · have ho' := ho
      obtain rfl := Option.some.inj ho
      refine step_do ho' (wanted_free rfl) ?_
      have hs := notyett hF 9 hLi 10 rfl (by kernel_rfl)
      unfold Oper.wp
      go_simp
      exact hK _ _ (.inr ⟨_, rfl⟩) (hF.j.alloc 0 (fun i _ hne => if_oth (k := 0) rfl hne) (fun i hi => if_off (by decide) hi) (fun i _ hne => if_oth (k := 0) rfl hne) rfl hs)
    · have ho' := ho
      obtain rfl := Option.some.inj ho
      have f28 : ac.tmps.getD 28 undef = .agg (B32 f) := (factt hF hd 7 rfl rfl (by kernel_rfl)).1.trans (factt hF hd 7 rfl rfl (by kernel_rfl)).2
      refine step_do ho' (wanted_free rfl) ?_
      obtain ⟨fg, gq, hg⟩ := factt hF hd 9 rfl rfl (by kernel_rfl)
      have hm_ := dep hd 9 (by kernel_rfl)
      have hj := hF.j
      rw [hg] at fg
      have hj2 := hj.at (k := 0) (by decide) hm_ hg hLi
      refine wp_store_own 22 (.tmp 9) (.tmp 28) rfl gq (B32 f) fg f28 hj2.2.2 (B32_sizes _ _) (B32_info _) (B32_one _) rfl ?_
      exact hK undef _ (.inl rfl) (hj.storeA (k := 0) (A := B32 f) rfl (by decide) hm_ hg hLi (B32_sizes _ _) (fun i hi => if_off (by decide) hi) (fun i _ hne => if_oth (k := 0) rfl hne) (fun i hi => if_off (by decide) hi) rfl)
    · have ho' := ho
      obtain rfl := Option.some.inj ho
      have f29 : ac.tmps.getD 29 undef = .int .i64 (e1) := (factt hF hd 8 rfl rfl (by kernel_rfl)).1.trans (factt hF hd 8 rfl rfl (by kernel_rfl)).2
      refine step_do ho' (wanted_free rfl) ?_
      unfold Oper.wp
      go_simp
      exact hK _ _ (.inr rfl) (hF.j.congr (fun i hi => if_off (by decide) hi) (fun i hi => if_off (by decide) hi) (fun i hi => if_off (by decide) hi))
    · cases ho
  intro L vs V5 hL hJ hf
  obtain ⟨g6, hgg6⟩ := hf 9 _ _ rfl rfl
  obtain ⟨le0, apg6, owng6⟩ := hJ.gotA (k := 0) (A := B32 f) rfl (by decide) (hL 9 (by decide)) hgg6 (hL 10 (by decide))
  have le_g6 := show Hid _ from le0
  clear le0
  have ne_g3_g6 : Hid (g3 ≠ g6) := apg6 (g3, B32 (bdig S), 22) (.head _)
  have ne_g2_g6 : Hid (g2 ≠ g6) := apg6 (g2, B32 (bdig R), 22) (.tail _ (.head _))
  have ne_bS_g6 : Hid (bS ≠ g6) := apg6 (bS, B64 (bdig (two R S)), 26) (.tail _ (.tail _ (.head _)))
  have ne_bA_g6 : Hid (bA ≠ g6) := apg6 (bA, B32 (bdig p), 22) (.tail _ (.tail _ (.tail _ (.head _))))
  have hK : Kp [(g6, B32 f, 22), (g3, B32 (bdig S), 22), (g2, B32 (bdig R), 22), (bS, B64 (bdig (two R S)), 26), (bA, B32 (bdig p), 22)] w V5 := (hJ.1.cons owng6)
  have e0 : vs 0 = _ := hf 0 _ _ rfl rfl
  have e1 : vs 1 = _ := hf 1 _ _ rfl rfl
  have e2 : vs 2 = _ := hf 2 _ _ rfl rfl
  have e3 : vs 3 = _ := hf 3 _ _ rfl rfl
  have e4 : vs 4 = _ := hf 4 _ _ rfl rfl
  have e5 : vs 5 = _ := hf 5 _ _ rfl rfl
  have e6 : vs 6 = _ := hf 6 _ _ rfl rfl
  have e7 : vs 7 = _ := hf 7 _ _ rfl rfl
  have e8 : vs 8 = _ := hf 8 _ _ rfl rfl
  have e11 : vs 11 = _ := hf 11 _ _ rfl rfl
  simp only [putAll, Nat.zero_add, Nat.reduceAdd, e0, e1, e2, e3, e4, e5, e6, e7, e8, e11, hgg6, Act.put, List.setIfInBounds_toArray, List.set_cons_succ, List.set_cons_zero]
  clear hJ hf hL e0 e1 e2 e3 e4 e5 e6 e7 e8 e11 hgg6 apg6 owng6
  rcases h1.out with ⟨rfl, hv⟩ | ⟨rfl, h2⟩
  · replace hv := show Hid _ from hv
    go_wp2
    go_ret
    exact ⟨by first | rfl | (rw [hv.out]; rfl), hK.2⟩
  replace h2 := show Hid _ from h2
  go_upto_region 7 with fail
  go_wp2_with (first
    | refine wpList_load_own (by rfl) 22 (.tmp 7) (by rfl) g2 (by rfl) (B32 (bdig R)) _ (hK.at g2 (B32 (bdig R)) 22 (.tail _ (.tail _ (.head _)))) Tryz.underlying22 (by rfl) (B32_info _) ?_
    | refine wpList_load_own (by rfl) 22 (.tmp 9) (by rfl) g6 (by rfl) (B32 f) _ (hK.at g6 (B32 f) 22 (.head _)) Tryz.underlying22 (by rfl) (B32_info _) ?_)
  refine (hA.out (by simp) _ (F.keep _ _ hT hK.2)).mono ?_
  rintro e V7 ⟨rfl, bw⟩
  have hK := hK.below bw
  clear bw
  go_upto_region 8 with (refine wpList_store_new (by rfl) 22 (.tmp 11) (.tmp 36) (by rfl) _ (B32 g) (by rfl) (by rfl) (B32_info _) (B32_sizes _ _) (B32_one _) (by rfl) ?_)
  have lt_g6 := (hK.at g6 (B32 f) 22 (.head _)).lt
  have lt_g3 := (hK.at g3 (B32 (bdig S)) 22 (.tail _ (.head _))).lt
  have lt_g2 := (hK.at g2 (B32 (bdig R)) 22 (.tail _ (.tail _ (.head _)))).lt
  have lt_bS := (hK.at bS (B64 (bdig (two R S))) 26 (.tail _ (.tail _ (.tail _ (.head _))))).lt
  have lt_bA := (hK.at bA (B32 (bdig p)) 22 (.tail _ (.tail _ (.tail _ (.tail _ (.head _)))))).lt
  have le_b8 := show Hid _ from hK.2.size
  have hK := hK.alloc (B32 g) 22
  generalize V7.alloc (.cells (B32 g) 22) = V9 at *
  obtain ⟨b8, Hb8⟩ : ∃ b, Hid (V7.heap.size = b) := ⟨_, rfl⟩
  have ne_g6_b8 : Hid (g6 ≠ b8) := by show _ ≠ _; rw [← Hb8.out]; exact Nat.ne_of_lt lt_g6
  have ne_g3_b8 : Hid (g3 ≠ b8) := by show _ ≠ _; rw [← Hb8.out]; exact Nat.ne_of_lt lt_g3
  have ne_g2_b8 : Hid (g2 ≠ b8) := by show _ ≠ _; rw [← Hb8.out]; exact Nat.ne_of_lt lt_g2
  have ne_bS_b8 : Hid (bS ≠ b8) := by show _ ≠ _; rw [← Hb8.out]; exact Nat.ne_of_lt lt_bS
  have ne_bA_b8 : Hid (bA ≠ b8) := by show _ ≠ _; rw [← Hb8.out]; exact Nat.ne_of_lt lt_bA
  have le_b8 : Hid (w.heap.size ≤ b8) := by show _ ≤ _; rw [← Hb8.out]; exact le_b8.out
  rw [Hb8.out] at hK ⊢
  clear lt_g6 lt_g3 lt_g2 lt_bS lt_bA
  rcases h2.out with ⟨rfl, hv⟩ | ⟨rfl, hv⟩
  · replace hv := show Hid _ from hv
    refine wp_region_vals 46 (by kernel_rfl) (by kernel_rfl) (by rfl) (valVer8n) (fun _ => Kp [(b8, B32 g, 22), (g6, B32 f, 22), (g3, B32 (bdig S), 22), (g2, B32 (bdig R), 22), (bS, B64 (bdig (two R S)), 26), (bA, B32 (bdig p), 22)] w) hK.drew ?_ ?_
    · intro L ac wc i o hF hLi ho hd K hK
      rcases i with _ | _ | _ | _ | _ | _ | _ | _ | _ | i
      · have ho' := ho
        obtain rfl := Option.some.inj ho
        have f10 : ac.tmps.getD 10 undef = .int .i64 (1) := slotv hF 0 hLi 10 (by kernel_rfl)
        refine step_do ho' (wanted_free rfl) ?_
        unfold Oper.wp
        go_simp
        exact hK _ _ (.inr rfl) hF.j
      · have ho' := ho
        obtain rfl := Option.some.inj ho
        have f38 : ac.tmps.getD 38 undef = .int .i64 (1) := valv hF hd 0 rfl rfl (by kernel_rfl)
        refine step_do ho' (wanted_free rfl) ?_
        unfold Oper.wp
        go_simp
        exact hK _ _ (.inr rfl) hF.j
      · have ho' := ho
        obtain rfl := Option.some.inj ho
        have f39 : ac.tmps.getD 39 undef = .bool false := valv hF hd 1 rfl rfl (by kernel_rfl)
        refine step_do ho' (wanted_free rfl) ?_
        unfold Oper.wp
        go_simp
        exact hK _ _ (.inr rfl) hF.j
      · have ho' := ho
        obtain rfl := Option.some.inj ho
        have fg : ac.tmps.getD 40 undef = .bool false := valv hF hd 2 rfl rfl (by kernel_rfl)
        exact step_pass ho' (wanted_not (g := 2) rfl rfl rfl fg (by decide)) (hK _ _ (.inr rfl) hF.j)
      · have ho' := ho
        obtain rfl := Option.some.inj ho
        have fg : ac.tmps.getD 40 undef = .bool false := valv hF hd 2 rfl rfl (by kernel_rfl)
        exact step_pass ho' (wanted_not (g := 2) rfl rfl rfl fg (by decide)) (hK _ _ (.inr rfl) hF.j)
      · have ho' := ho
        obtain rfl := Option.some.inj ho
        have fg : ac.tmps.getD 40 undef = .bool false := valv hF hd 2 rfl rfl (by kernel_rfl)
        exact step_pass ho' (wanted_not (g := 2) rfl rfl rfl fg (by decide)) (hK _ _ (.inr rfl) hF.j)
      · have ho' := ho
        obtain rfl := Option.some.inj ho
        have fg : ac.tmps.getD 40 undef = .bool false := valv hF hd 2 rfl rfl (by kernel_rfl)
        exact step_pass ho' (wanted_not (g := 2) rfl rfl rfl fg (by decide)) (hK _ _ (.inr rfl) hF.j)
      · have ho' := ho
        obtain rfl := Option.some.inj ho
        have f40 : ac.tmps.getD 40 undef = .bool false := valv hF hd 2 rfl rfl (by kernel_rfl)
        have f44 : ac.tmps.getD 44 undef = undef := valv hF hd 6 rfl rfl (by kernel_rfl)
        refine step_do ho' (wanted_free rfl) ?_
        unfold Oper.wp
        go_simp
        exact hK _ _ (.inr rfl) hF.j
      · have ho' := ho
        obtain rfl := Option.some.inj ho
        have f45 : ac.tmps.getD 45 undef = .bool false := valv hF hd 7 rfl rfl (by kernel_rfl)
        refine step_do ho' (wanted_free rfl) ?_
        unfold Oper.wp
        go_simp
        exact hK _ _ (.inr rfl) hF.j
      · cases ho
    intro L V10 hL hKq
    have hK : Kp [(b8, B32 g, 22), (g6, B32 f, 22), (g3, B32 (bdig S), 22), (g2, B32 (bdig R), 22), (bS, B64 (bdig (two R S)), 26), (bA, B32 (bdig p), 22)] w V10 := hKq
    clear hKq hL
    simp only [putAll, valVer8n, Act.put, List.setIfInBounds_toArray, List.set_cons_succ, List.set_cons_zero]
    go_wp2
    go_ret
    exact ⟨by first | rfl | (rw [hv.out]; rfl), hK.2⟩
  · replace hv := show Hid _ from hv
    refine wp_region_vals 46 (by kernel_rfl) (by kernel_rfl) (by rfl) (valVer8 S t g v0) (fun _ => Kp [(b8, B32 g, 22), (g6, B32 f, 22), (g3, B32 (bdig S), 22), (g2, B32 (bdig R), 22), (bS, B64 (bdig (two R S)), 26), (bA, B32 (bdig p), 22)] w) hK.drew ?_ ?_
    · intro L ac wc i o hF hLi ho hd K hK
      rcases i with _ | _ | _ | _ | _ | _ | _ | _ | _ | i
      · have ho' := ho
        obtain rfl := Option.some.inj ho
        have f10 : ac.tmps.getD 10 undef = .int .i64 (0) := slotv hF 0 hLi 10 (by kernel_rfl)
        refine step_do ho' (wanted_free rfl) ?_
        unfold Oper.wp
        go_simp
        exact hK _ _ (.inr rfl) hF.j
      · have ho' := ho
        obtain rfl := Option.some.inj ho
        have f38 : ac.tmps.getD 38 undef = .int .i64 (0) := valv hF hd 0 rfl rfl (by kernel_rfl)
        refine step_do ho' (wanted_free rfl) ?_
        unfold Oper.wp
        go_simp
        exact hK _ _ (.inr rfl) hF.j
      · have ho' := ho
        obtain rfl := Option.some.inj ho
        have f39 : ac.tmps.getD 39 undef = .bool true := valv hF hd 1 rfl rfl (by kernel_rfl)
        refine step_do ho' (wanted_free rfl) ?_
        unfold Oper.wp
        go_simp
        exact hK _ _ (.inr rfl) hF.j
      · have ho' := ho
        obtain rfl := Option.some.inj ho
        have f11 : ac.tmps.getD 11 undef = .pointer (some ⟨b8, 0, none⟩) := slotv hF 3 hLi 11 (by kernel_rfl)
        have fg : ac.tmps.getD 40 undef = .bool true := valv hF hd 2 rfl rfl (by kernel_rfl)
        refine step_do ho' (wanted_so (g := 2) rfl rfl rfl fg) ?_
        exact wp_load_own 22 (.tmp 11) rfl b8 f11 (B32 g) _ 22 (hF.j.at b8 (B32 g) 22 (.head _)) Tryz.underlying22 rfl (B32_info _) (hK _ _ (.inr rfl) hF.j)
      · have ho' := ho
        obtain rfl := Option.some.inj ho
        have f8 : ac.tmps.getD 8 undef = .pointer (some ⟨g3, 0, none⟩) := slotv hF 4 hLi 8 (by kernel_rfl)
        have fg : ac.tmps.getD 40 undef = .bool true := valv hF hd 2 rfl rfl (by kernel_rfl)
        refine step_do ho' (wanted_so (g := 2) rfl rfl rfl fg) ?_
        exact wp_load_own 22 (.tmp 8) rfl g3 f8 (B32 (bdig S)) _ 22 (hF.j.at g3 (B32 (bdig S)) 22 (.tail _ (.tail _ (.head _)))) Tryz.underlying22 rfl (B32_info _) (hK _ _ (.inr rfl) hF.j)
      · have ho' := ho
        obtain rfl := Option.some.inj ho
        have f42 : ac.tmps.getD 42 undef = .agg (B32 (bdig S)) := valv hF hd 4 rfl rfl (by kernel_rfl)
        have fg : ac.tmps.getD 40 undef = .bool true := valv hF hd 2 rfl rfl (by kernel_rfl)
        refine step_do ho' (wanted_so (g := 2) rfl rfl rfl fg) ?_
        unfold Oper.wp
        go_simp
        refine (F.baseA lS.out Ht.out _ (F.keep _ _ hT hF.j.2)).mono ?_
        rintro e w' ⟨rfl, hB⟩
        exact hK _ _ (.inr rfl) ((hF.j).below hB)
      · have ho' := ho
        obtain rfl := Option.some.inj ho
        have f41 : ac.tmps.getD 41 undef = .agg (B32 g) := valv hF hd 3 rfl rfl (by kernel_rfl)
        have f43 : ac.tmps.getD 43 undef = .agg (B32 (bdig t)) := valv hF hd 5 rfl rfl (by kernel_rfl)
        have fg : ac.tmps.getD 40 undef = .bool true := valv hF hd 2 rfl rfl (by kernel_rfl)
        refine step_do ho' (wanted_so (g := 2) rfl rfl rfl fg) ?_
        unfold Oper.wp
        go_simp
        exact hK _ _ (.inr rfl) hF.j
      · have ho' := ho
        obtain rfl := Option.some.inj ho
        have f40 : ac.tmps.getD 40 undef = .bool true := valv hF hd 2 rfl rfl (by kernel_rfl)
        have f44 : ac.tmps.getD 44 undef = .bool v0 := valv hF hd 6 rfl rfl (by kernel_rfl)
        refine step_do ho' (wanted_free rfl) ?_
        unfold Oper.wp
        go_simp
        exact hK _ _ (.inr rfl) hF.j
      · have ho' := ho
        obtain rfl := Option.some.inj ho
        have f45 : ac.tmps.getD 45 undef = .bool v0 := valv hF hd 7 rfl rfl (by kernel_rfl)
        refine step_do ho' (wanted_free rfl) ?_
        unfold Oper.wp
        go_simp
        exact hK _ _ (.inr rfl) hF.j
      · cases ho
    intro L V10 hL hKq
    have hK : Kp [(b8, B32 g, 22), (g6, B32 f, 22), (g3, B32 (bdig S), 22), (g2, B32 (bdig R), 22), (bS, B64 (bdig (two R S)), 26), (bA, B32 (bdig p), 22)] w V10 := hKq
    clear hKq hL
    simp only [putAll, valVer8, Act.put, List.setIfInBounds_toArray, List.set_cons_succ, List.set_cons_zero]
    go_wp2
    go_ret
    exact ⟨by first | rfl | (rw [hv.out (by simp)]; rfl), hK.2⟩
end Go.Proofs.YtfkcphbbabaefaaGreatDoor
