/- Of the texts SV1, SM1, SM2, SW1: what the card of this claim reaches. -/
import Derived.Test.YtfkcphbbabaefaaDoorXB34
import Derived.Test.YtfkcphbbabaefaaDoorXB35
import Derived.Test.YtfkcphbbabaefaaDoorXB33
namespace Go.Proofs.YtfkcphbbabaefaaDoor
open Go Go.RowKit
def factVer1 (R S bS : Nat) : Nat → Value → Prop
  | 0, vq => vq = .slice (some ⟨bS, 0, none⟩) 32 64
  | 1, vq => vq = .pointer (some ⟨bS, 0, none⟩)
  | 2, vq => vq = .agg (B32 (bdig R))
  | 3, vq => vq = .slice (some ⟨bS, 32, none⟩) 32 32
  | 4, vq => vq = .pointer (some ⟨bS, 32, none⟩)
  | 5, vq => vq = .agg (B32 (bdig S))
  | 6, vq => ∃ g, vq = .pointer (some ⟨g, 0, none⟩)
  | 7, vq => ∃ g, vq = .pointer (some ⟨g, 0, none⟩)
  | _, _ => True
def factVer4 (p R k : Nat) (f : Nat → Nat) (e1 : Int) (ta : Option Addr) (tc : Nat) (m : List Int) : Nat → Value → Prop
  | 0, vq => vq = .agg (B32 (bdig R))
  | 1, vq => vq = .agg (B32 (bdig p))
  | 2, vq => vq = .slice ta m.length tc
  | 3, vq => vq = .agg (B32 (bdig k))
  | 4, vq => vq = .agg (B32 (bdig p))
  | 5, vq => vq = .tuple #[.agg (B32 f), .int .i64 (e1)]
  | 6, vq => vq = .tuple #[.agg (B32 f), .int .i64 (e1)]
  | 7, vq => vq = .agg (B32 f)
  | 8, vq => vq = .int .i64 (e1)
  | 11, vq => vq = .int .i64 (e1)
  | 9, vq => ∃ g, vq = .pointer (some ⟨g, 0, none⟩)
  | _, _ => True
def valVer8n : Nat → Value
  | 0 => .int .i64 (1)
  | 1 => .bool false
  | 2 => .bool false
  | 3 => undef
  | 4 => undef
  | 5 => undef
  | 6 => undef
  | 7 => .bool false
  | 8 => .bool false
  | _ => undef
def valVer8 (S t : Nat) (g : Nat → Nat) (v0 : Bool) : Nat → Value
  | 0 => .int .i64 (0)
  | 1 => .bool true
  | 2 => .bool true
  | 3 => .agg (B32 g)
  | 4 => .agg (B32 (bdig S))
  | 5 => .agg (B32 (bdig t))
  | 6 => .bool v0
  | 7 => .bool v0
  | 8 => .bool v0
  | _ => undef
set_option maxRecDepth 100000 in
set_option maxHeartbeats 600000 in
theorem verify_gen {T : World → Prop} (F : Low T) {p R S k t : Nat} {f g : Nat → Nat} {e1 e2 : Int} {b0 v0 v : Bool} {ta : Option Addr} {tc : Nat} {m : List Int} (lR : Hid (R < R256)) (lS : Hid (S < R256)) (Hk : Hid (dn (by32 R ++ (by32 p ++ m)) % LL = k)) (hS : Hid (decide (S < LL) = b0))
    (hM : Hid (∀ w, T w → Calls Tryd.prog 17 #[.agg (B32 (bdig k)), .agg (B32 (bdig p))] w fun x w' => x = .returned (.tuple #[.agg (B32 f), .int .i64 e1]) ∧ Below w.heap.size w w')) (hA : Hid (e1 = 0 → (∀ w, T w → Calls Tryd.prog 18 #[.agg (B32 (bdig R)), .agg (B32 f)] w fun x w' => x = .returned (.tuple #[.agg (B32 g), .int .i64 e2]) ∧ Below w.heap.size w w')))
    (Ht : Hid (enc (Pt.times S BP) = t)) (heq : ∀ w, (Op.equalIn 10000 22 (.agg (B32 g)) (.agg (B32 (bdig t)))).run Tryd.prog w = .ok v0 w)
    (h0 : Hid (b0 = false → v = false)) (h1 : Hid ((e1 = 1 ∧ v = false) ∨ (e1 = 0 ∧ ((e2 = 1 ∧ v = false) ∨ (e2 = 0 ∧ (b0 = true → v0 = v)))))) (hl : m.length ≤ 1000) (w : World) (hT : T w) (hm : Txt w ta tc m) : Calls Tryd.prog 7 #[.agg (B32 (bdig p)), .slice ta m.length tc, .agg (B64 (bdig (two R S)))] w fun x w' => x = .returned (.bool v) ∧ Below w.heap.size w w' := by
  have hz := (zero_of_info zeroB32).1
  go_enter Tryd.func7, Tryd.ntmps7
  go_upto_region 1 with fail
  have hK := ((Kp.nil w).alloc (B32 (bdig p)) 22).alloc (B64 (bdig (two R S))) 24
  rw [World.size_alloc] at hK
  generalize (w.alloc (.cells (B32 (bdig p)) 22)).alloc (.cells (B64 (bdig (two R S))) 24) = W at *
  obtain ⟨bA, HbA⟩ : ∃ b, Hid (w.heap.size = b) := ⟨_, rfl⟩
  obtain ⟨bS, HbS⟩ : ∃ b, Hid (bA + 1 = b) := ⟨_, rfl⟩
  have le_bA : Hid (w.heap.size ≤ bA) := by show _ ≤ _; have := HbA.out; omega
  have le_bS : Hid (w.heap.size ≤ bS) := by show _ ≤ _; have := HbA.out; have := HbS.out; omega
  have ne_bA_bS : Hid (bA ≠ bS) := by show _ ≠ _; have := HbS.out; omega
  rw [HbA.out, HbS.out] at hK ⊢
  refine wp_region_told 46 (by kernel_rfl) (by kernel_rfl) (by rfl) (factVer1 R S bS) (fun L vs => MkN 2 [(bS, B64 (bdig (two R S)), 24), (bA, B32 (bdig p), 22)] w (pick2 (B32 fun _ => 0) (B32 fun _ => 0)) (pick2 (B32 (bdig R)) (B32 (bdig S))) (pick2 (22) (22)) (fun i => L (6 + i)) (fun i => L (8 + i)) (fun i => vs (6 + i))) (fun _ => MkN.drew hK (fun _ _ => rfl)) ?_ ?_
  · intro L vs ac wc i o hF hLi ho hd K hK
    rcases i with _ | _ | _ | _ | _ | _ | _ | _ | _ | _ | i
    · have ho' := ho
      obtain rfl := Option.some.inj ho
      have f5 : ac.tmps.getD 5 undef = .pointer (some ⟨bS, 0, none⟩) := slott hF 0 hLi 5 (by kernel_rfl)
      refine step_do ho' (wanted_free rfl) ?_
      unfold Oper.wp
      go_simp
      exact hK _ _ (.inr rfl) (hF.j.congr (fun i hi => if_off (by decide) hi) (fun i hi => if_off (by decide) hi) (fun i hi => if_off (by decide) hi))
    · have ho' := ho
      obtain rfl := Option.some.inj ho
      have f12 : ac.tmps.getD 12 undef = .slice (some ⟨bS, 0, none⟩) 32 64 := (factt hF hd 0 rfl rfl (by kernel_rfl)).1.trans (factt hF hd 0 rfl rfl (by kernel_rfl)).2
      refine step_do ho' (wanted_free rfl) ?_
      unfold Oper.wp
      go_simp
      exact hK _ _ (.inr rfl) (hF.j.congr (fun i hi => if_off (by decide) hi) (fun i hi => if_off (by decide) hi) (fun i hi => if_off (by decide) hi))
    · have ho' := ho
      obtain rfl := Option.some.inj ho
      have f13 : ac.tmps.getD 13 undef = .pointer (some ⟨bS, 0, none⟩) := (factt hF hd 1 rfl rfl (by kernel_rfl)).1.trans (factt hF hd 1 rfl rfl (by kernel_rfl)).2
      refine step_do ho' (wanted_free rfl) ?_
      exact wp_load_mid 22 (.tmp 13) rfl bS 0 f13 (B32 (bdig R)).toList _ (B64_lo2 lR.out (hF.j.1.at bS (B64 (bdig (two R S))) 24 (.head _))) Tryd.underlying22 rfl (B32_len7 _) (hK _ _ (.inr rfl) (hF.j.congr (fun i hi => if_off (by decide) hi) (fun i hi => if_off (by decide) hi) (fun i hi => if_off (by decide) hi)))
    · have ho' := ho
      obtain rfl := Option.some.inj ho
      have f5 : ac.tmps.getD 5 undef = .pointer (some ⟨bS, 0, none⟩) := slott hF 3 hLi 5 (by kernel_rfl)
      refine step_do ho' (wanted_free rfl) ?_
      unfold Oper.wp
      go_simp
      exact hK _ _ (.inr rfl) (hF.j.congr (fun i hi => if_off (by decide) hi) (fun i hi => if_off (by decide) hi) (fun i hi => if_off (by decide) hi))
    · have ho' := ho
      obtain rfl := Option.some.inj ho
      have f15 : ac.tmps.getD 15 undef = .slice (some ⟨bS, 32, none⟩) 32 32 := (factt hF hd 3 rfl rfl (by kernel_rfl)).1.trans (factt hF hd 3 rfl rfl (by kernel_rfl)).2
      refine step_do ho' (wanted_free rfl) ?_
      unfold Oper.wp
      go_simp
      exact hK _ _ (.inr rfl) (hF.j.congr (fun i hi => if_off (by decide) hi) (fun i hi => if_off (by decide) hi) (fun i hi => if_off (by decide) hi))
    · have ho' := ho
      obtain rfl := Option.some.inj ho
      have f16 : ac.tmps.getD 16 undef = .pointer (some ⟨bS, 32, none⟩) := (factt hF hd 4 rfl rfl (by kernel_rfl)).1.trans (factt hF hd 4 rfl rfl (by kernel_rfl)).2
      refine step_do ho' (wanted_free rfl) ?_
      exact wp_load_mid 22 (.tmp 16) rfl bS 32 f16 (B32 (bdig S)).toList _ (B64_hi2 lR.out (hF.j.1.at bS (B64 (bdig (two R S))) 24 (.head _))) Tryd.underlying22 rfl (B32_len7 _) (hK _ _ (.inr rfl) (hF.j.congr (fun i hi => if_off (by decide) hi) (fun i hi => if_off (by decide) hi) (fun i hi => if_off (by decide) hi)))
    · have ho' := ho
      obtain rfl := Option.some.inj ho
      refine step_do ho' (wanted_free rfl) ?_
      have hs := notyett hF 6 hLi 8 rfl (by kernel_rfl)
      unfold Oper.wp
      go_simp
      exact hK _ _ (.inr ⟨_, rfl⟩) (hF.j.alloc 0 (fun i _ hne => if_oth (k := 0) rfl hne) (fun i hi => if_off (by decide) hi) (fun i _ hne => if_oth (k := 0) rfl hne) rfl hs)
    · have ho' := ho
      obtain rfl := Option.some.inj ho
      refine step_do ho' (wanted_free rfl) ?_
      have hs := notyett hF 7 hLi 9 rfl (by kernel_rfl)
      unfold Oper.wp
      go_simp
      exact hK _ _ (.inr ⟨_, rfl⟩) (hF.j.alloc 1 (fun i _ hne => if_oth (k := 1) rfl hne) (fun i hi => if_off (by decide) hi) (fun i _ hne => if_oth (k := 1) rfl hne) rfl hs)
    · have ho' := ho
      obtain rfl := Option.some.inj ho
      have f14 : ac.tmps.getD 14 undef = .agg (B32 (bdig R)) := (factt hF hd 2 rfl rfl (by kernel_rfl)).1.trans (factt hF hd 2 rfl rfl (by kernel_rfl)).2
      refine step_do ho' (wanted_free rfl) ?_
      obtain ⟨fg, gq, hg⟩ := factt hF hd 6 rfl rfl (by kernel_rfl)
      have hm_ := dep hd 6 (by kernel_rfl)
      have hj := hF.j
      rw [hg] at fg
      have hj2 := hj.at (k := 0) (by decide) hm_ hg hLi
      refine wp_store_own 22 (.tmp 7) (.tmp 14) rfl gq (B32 (bdig R)) fg f14 hj2.2.2 (B32_sizes _ _) (B32_info _) (B32_one _) rfl ?_
      exact hK undef _ (.inl rfl) (hj.storeA (k := 0) (A := B32 (bdig R)) rfl (by decide) hm_ hg hLi (B32_sizes _ _) (fun i hi => if_off (by decide) hi) (fun i _ hne => if_oth (k := 0) rfl hne) (fun i hi => if_off (by decide) hi) rfl)
    · have ho' := ho
      obtain rfl := Option.some.inj ho
      have f17 : ac.tmps.getD 17 undef = .agg (B32 (bdig S)) := (factt hF hd 5 rfl rfl (by kernel_rfl)).1.trans (factt hF hd 5 rfl rfl (by kernel_rfl)).2
      refine step_do ho' (wanted_free rfl) ?_
      obtain ⟨fg, gq, hg⟩ := factt hF hd 7 rfl rfl (by kernel_rfl)
      have hm_ := dep hd 7 (by kernel_rfl)
      have hj := hF.j
      rw [hg] at fg
      have hj2 := hj.at (k := 1) (by decide) hm_ hg hLi
      refine wp_store_own 22 (.tmp 8) (.tmp 17) rfl gq (B32 (bdig S)) fg f17 hj2.2.2 (B32_sizes _ _) (B32_info _) (B32_one _) rfl ?_
      exact hK undef _ (.inl rfl) (hj.storeA (k := 1) (A := B32 (bdig S)) rfl (by decide) hm_ hg hLi (B32_sizes _ _) (fun i hi => if_off (by decide) hi) (fun i _ hne => if_oth (k := 1) rfl hne) (fun i hi => if_off (by decide) hi) rfl)
    · cases ho
  intro L vs V1 hL hJ hf
  obtain ⟨g2, hgg2⟩ := hf 6 _ _ rfl rfl
  obtain ⟨le0, apg2, owng2⟩ := hJ.gotA (k := 0) (A := B32 (bdig R)) rfl (by decide) (hL 6 (by decide)) hgg2 (hL 8 (by decide))
  have le_g2 := show Hid _ from le0
  clear le0
  obtain ⟨g3, hgg3⟩ := hf 7 _ _ rfl rfl
  obtain ⟨le0, apg3, owng3⟩ := hJ.gotA (k := 1) (A := B32 (bdig S)) rfl (by decide) (hL 7 (by decide)) hgg3 (hL 9 (by decide))
  have le_g3 := show Hid _ from le0
  clear le0
  have ne_g2_g3 : Hid (g2 ≠ g3) := hJ.apart (i := 0) (j := 1) (by decide) (by decide) (by decide) (hL 6 (by decide)) (hL 7 (by decide)) hgg2 hgg3
  have ne_bS_g2 : Hid (bS ≠ g2) := apg2 (bS, B64 (bdig (two R S)), 24) (.head _)
  have ne_bA_g2 : Hid (bA ≠ g2) := apg2 (bA, B32 (bdig p), 22) (.tail _ (.head _))
  have ne_bS_g3 : Hid (bS ≠ g3) := apg3 (bS, B64 (bdig (two R S)), 24) (.head _)
  have ne_bA_g3 : Hid (bA ≠ g3) := apg3 (bA, B32 (bdig p), 22) (.tail _ (.head _))
  have hK : Kp [(g3, B32 (bdig S), 22), (g2, B32 (bdig R), 22), (bS, B64 (bdig (two R S)), 24), (bA, B32 (bdig p), 22)] w V1 := ((hJ.1.cons owng2).cons owng3)
  have e0 : vs 0 = _ := hf 0 _ _ rfl rfl
  have e1 : vs 1 = _ := hf 1 _ _ rfl rfl
  have e2 : vs 2 = _ := hf 2 _ _ rfl rfl
  have e3 : vs 3 = _ := hf 3 _ _ rfl rfl
  have e4 : vs 4 = _ := hf 4 _ _ rfl rfl
  have e5 : vs 5 = _ := hf 5 _ _ rfl rfl
  simp only [putAll, Nat.zero_add, Nat.reduceAdd, e0, e1, e2, e3, e4, e5, hgg2, hgg3, Act.put, List.setIfInBounds_toArray, List.set_cons_succ, List.set_cons_zero]
  clear hJ hf hL e0 e1 e2 e3 e4 e5 hgg2 hgg3 apg2 apg3 owng2 owng3
  go_wp2_with (refine wpList_load_own (by rfl) 22 (.tmp 8) (by rfl) g3 (by rfl) (B32 (bdig S)) _ (hK.at g3 (B32 (bdig S)) 22 (.head _)) Tryd.underlying22 (by rfl) (B32_info _) ?_)
  refine (F.scheckA lS.out hS.out _ (F.keep _ _ hT hK.2)).mono ?_
  rintro e V4 ⟨rfl, bw⟩
  have hK := hK.below bw
  clear bw
  cases b0
  · go_wp2_with fail
    go_ret
    exact ⟨by first | rfl | (rw [h0.out (by simp)]; rfl), hK.2⟩
  go_upto_region 4 with fail
  refine wp_region_told 46 (by kernel_rfl) (by kernel_rfl) (by rfl) (factVer4 p R k f e1 ta tc m) (fun L vs => MkN 1 [(g3, B32 (bdig S), 22), (g2, B32 (bdig R), 22), (bS, B64 (bdig (two R S)), 24), (bA, B32 (bdig p), 22)] w (fun _ => B32 fun _ => 0) (fun _ => B32 f) (fun _ => 22) (fun i => L (9 + i)) (fun i => L (10 + i)) (fun i => vs (9 + i))) (fun _ => MkN.drew hK (fun _ _ => rfl)) ?_ ?_
  · intro L vs ac wc i o hF hLi ho hd K hK
    rcases i with _ | _ | _ | _ | _ | _ | _ | _ | _ | _ | _ | _ | i
    · have ho' := ho
      obtain rfl := Option.some.inj ho
      have f7 : ac.tmps.getD 7 undef = .pointer (some ⟨g2, 0, none⟩) := slott hF 0 hLi 7 (by kernel_rfl)
      refine step_do ho' (wanted_free rfl) ?_
      exact wp_load_own 22 (.tmp 7) rfl g2 f7 (B32 (bdig R)) _ 22 (hF.j.1.at g2 (B32 (bdig R)) 22 (.tail _ (.head _))) Tryd.underlying22 rfl (B32_info _) (hK _ _ (.inr rfl) (hF.j.congr (fun i hi => if_off (by decide) hi) (fun i hi => if_off (by decide) hi) (fun i hi => if_off (by decide) hi)))
    · have ho' := ho
      obtain rfl := Option.some.inj ho
      have f3 : ac.tmps.getD 3 undef = .pointer (some ⟨bA, 0, none⟩) := slott hF 1 hLi 3 (by kernel_rfl)
      refine step_do ho' (wanted_free rfl) ?_
      exact wp_load_own 22 (.tmp 3) rfl bA f3 (B32 (bdig p)) _ 22 (hF.j.1.at bA (B32 (bdig p)) 22 (.tail _ (.tail _ (.tail _ (.head _))))) Tryd.underlying22 rfl (B32_info _) (hK _ _ (.inr rfl) (hF.j.congr (fun i hi => if_off (by decide) hi) (fun i hi => if_off (by decide) hi) (fun i hi => if_off (by decide) hi)))
    · have ho' := ho
      obtain rfl := Option.some.inj ho
      have f1 : ac.tmps.getD 1 undef = .slice ta m.length tc := slott hF 2 hLi 1 (by kernel_rfl)
      refine step_do ho' (wanted_free rfl) ?_
      unfold Oper.wp
      go_simp
      exact hK _ _ (.inr rfl) (hF.j.congr (fun i hi => if_off (by decide) hi) (fun i hi => if_off (by decide) hi) (fun i hi => if_off (by decide) hi))
    · have ho' := ho
      obtain rfl := Option.some.inj ho
      have f22 : ac.tmps.getD 22 undef = .agg (B32 (bdig R)) := (factt hF hd 0 rfl rfl (by kernel_rfl)).1.trans (factt hF hd 0 rfl rfl (by kernel_rfl)).2
      have f23 : ac.tmps.getD 23 undef = .agg (B32 (bdig p)) := (factt hF hd 1 rfl rfl (by kernel_rfl)).1.trans (factt hF hd 1 rfl rfl (by kernel_rfl)).2
      have f24 : ac.tmps.getD 24 undef = .slice ta m.length tc := (factt hF hd 2 rfl rfl (by kernel_rfl)).1.trans (factt hF hd 2 rfl rfl (by kernel_rfl)).2
      refine step_do ho' (wanted_free rfl) ?_
      unfold Oper.wp
      go_simp
      refine (bound_at F Hk hl _ (F.keep _ _ hT hF.j.1.2) (hm.below hF.j.1.2)).mono ?_
      rintro e w' ⟨rfl, hB⟩
      exact hK _ _ (.inr rfl) (((hF.j.congr (fun i hi => if_off (by decide) hi) (fun i hi => if_off (by decide) hi) (fun i hi => if_off (by decide) hi))).below hB)
    · have ho' := ho
      obtain rfl := Option.some.inj ho
      have f3 : ac.tmps.getD 3 undef = .pointer (some ⟨bA, 0, none⟩) := slott hF 4 hLi 3 (by kernel_rfl)
      refine step_do ho' (wanted_free rfl) ?_
      exact wp_load_own 22 (.tmp 3) rfl bA f3 (B32 (bdig p)) _ 22 (hF.j.1.at bA (B32 (bdig p)) 22 (.tail _ (.tail _ (.tail _ (.head _))))) Tryd.underlying22 rfl (B32_info _) (hK _ _ (.inr rfl) (hF.j.congr (fun i hi => if_off (by decide) hi) (fun i hi => if_off (by decide) hi) (fun i hi => if_off (by decide) hi)))
    · have ho' := ho
      obtain rfl := Option.some.inj ho
      have f25 : ac.tmps.getD 25 undef = .agg (B32 (bdig k)) := (factt hF hd 3 rfl rfl (by kernel_rfl)).1.trans (factt hF hd 3 rfl rfl (by kernel_rfl)).2
      have f26 : ac.tmps.getD 26 undef = .agg (B32 (bdig p)) := (factt hF hd 4 rfl rfl (by kernel_rfl)).1.trans (factt hF hd 4 rfl rfl (by kernel_rfl)).2
      refine step_do ho' (wanted_free rfl) ?_
      unfold Oper.wp
      go_simp
      refine (hM.out _ (F.keep _ _ hT hF.j.1.2)).mono ?_
      rintro e w' ⟨rfl, hB⟩
      exact hK _ _ (.inr rfl) (((hF.j.congr (fun i hi => if_off (by decide) hi) (fun i hi => if_off (by decide) hi) (fun i hi => if_off (by decide) hi))).below hB)
    · have ho' := ho
      obtain rfl := Option.some.inj ho
      have f27 : ac.tmps.getD 27 undef = .tuple #[.agg (B32 f), .int .i64 (e1)] := (factt hF hd 5 rfl rfl (by kernel_rfl)).1.trans (factt hF hd 5 rfl rfl (by kernel_rfl)).2
      refine step_do ho' (wanted_free rfl) ?_
      unfold Oper.wp
      go_simp
      exact hK _ _ (.inr rfl) (hF.j.congr (fun i hi => if_off (by decide) hi) (fun i hi => if_off (by decide) hi) (fun i hi => if_off (by decide) hi))
    · have ho' := ho
      obtain rfl := Option.some.inj ho
      have f21 : ac.tmps.getD 21 undef = .tuple #[.agg (B32 f), .int .i64 (e1)] := (factt hF hd 6 rfl rfl (by kernel_rfl)).1.trans (factt hF hd 6 rfl rfl (by kernel_rfl)).2
      refine step_do ho' (wanted_free rfl) ?_
      unfold Oper.wp
      go_simp
      exact hK _ _ (.inr rfl) (hF.j.congr (fun i hi => if_off (by decide) hi) (fun i hi => if_off (by decide) hi) (fun i hi => if_off (by decide) hi))
    · have ho' := ho
      obtain rfl := Option.some.inj ho
      have f21 : ac.tmps.getD 21 undef = .tuple #[.agg (B32 f), .int .i64 (e1)] := (factt hF hd 6 rfl rfl (by kernel_rfl)).1.trans (factt hF hd 6 rfl rfl (by kernel_rfl)).2
      refine step_do ho' (wanted_free rfl) ?_
      unfold Oper.wp
      go_simp
      exact hK _ _ (.inr rfl) (hF.j.congr (fun i hi => if_off (by decide) hi) (fun i hi => if_off (by decide) hi) (fun i hi => if_off (by decide) hi))
    · have ho' := ho
      obtain rfl := Option.some.inj ho
      refine step_do ho' (wanted_free rfl) ?_
      have hs := notyett hF 9 hLi 10 rfl (by kernel_rfl)
      unfold Oper.wp
      go_simp
      exact hK _ _ (.inr ⟨_, rfl⟩) (hF.j.alloc 0 (fun i _ hne => if_oth (k := 0) rfl hne) (fun i hi => if_off (by decide) hi) (fun i _ hne => if_oth (k := 0) rfl hne) rfl hs)
    · have ho' := ho
      obtain rfl := Option.some.inj ho
      have f28 : ac.tmps.getD 28 undef = .agg (B32 f) := (factt hF hd 7 rfl rfl (by kernel_rfl)).1.trans (factt hF hd 7 rfl rfl (by kernel_rfl)).2
      refine step_do ho' (wanted_free rfl) ?_
      obtain ⟨fg, gq, hg⟩ := factt hF hd 9 rfl rfl (by kernel_rfl)
      have hm_ := dep hd 9 (by kernel_rfl)
      have hj := hF.j
      rw [hg] at fg
      have hj2 := hj.at (k := 0) (by decide) hm_ hg hLi
      refine wp_store_own 22 (.tmp 9) (.tmp 28) rfl gq (B32 f) fg f28 hj2.2.2 (B32_sizes _ _) (B32_info _) (B32_one _) rfl ?_
      exact hK undef _ (.inl rfl) (hj.storeA (k := 0) (A := B32 f) rfl (by decide) hm_ hg hLi (B32_sizes _ _) (fun i hi => if_off (by decide) hi) (fun i _ hne => if_oth (k := 0) rfl hne) (fun i hi => if_off (by decide) hi) rfl)
    · have ho' := ho
      obtain rfl := Option.some.inj ho
      have f29 : ac.tmps.getD 29 undef = .int .i64 (e1) := (factt hF hd 8 rfl rfl (by kernel_rfl)).1.trans (factt hF hd 8 rfl rfl (by kernel_rfl)).2
      refine step_do ho' (wanted_free rfl) ?_
      unfold Oper.wp
      go_simp
      exact hK _ _ (.inr rfl) (hF.j.congr (fun i hi => if_off (by decide) hi) (fun i hi => if_off (by decide) hi) (fun i hi => if_off (by decide) hi))
    · cases ho
  intro L vs V5 hL hJ hf
  obtain ⟨g6, hgg6⟩ := hf 9 _ _ rfl rfl
  obtain ⟨le0, apg6, owng6⟩ := hJ.gotA (k := 0) (A := B32 f) rfl (by decide) (hL 9 (by decide)) hgg6 (hL 10 (by decide))
  have le_g6 := show Hid _ from le0
  clear le0
  have ne_g3_g6 : Hid (g3 ≠ g6) := apg6 (g3, B32 (bdig S), 22) (.head _)
  have ne_g2_g6 : Hid (g2 ≠ g6) := apg6 (g2, B32 (bdig R), 22) (.tail _ (.head _))
  have ne_bS_g6 : Hid (bS ≠ g6) := apg6 (bS, B64 (bdig (two R S)), 24) (.tail _ (.tail _ (.head _)))
  have ne_bA_g6 : Hid (bA ≠ g6) := apg6 (bA, B32 (bdig p), 22) (.tail _ (.tail _ (.tail _ (.head _))))
  have hK : Kp [(g6, B32 f, 22), (g3, B32 (bdig S), 22), (g2, B32 (bdig R), 22), (bS, B64 (bdig (two R S)), 24), (bA, B32 (bdig p), 22)] w V5 := (hJ.1.cons owng6)
  have e0 : vs 0 = _ := hf 0 _ _ rfl rfl
  have e1 : vs 1 = _ := hf 1 _ _ rfl rfl
  have e2 : vs 2 = _ := hf 2 _ _ rfl rfl
  have e3 : vs 3 = _ := hf 3 _ _ rfl rfl
  have e4 : vs 4 = _ := hf 4 _ _ rfl rfl
  have e5 : vs 5 = _ := hf 5 _ _ rfl rfl
  have e6 : vs 6 = _ := hf 6 _ _ rfl rfl
  have e7 : vs 7 = _ := hf 7 _ _ rfl rfl
  have e8 : vs 8 = _ := hf 8 _ _ rfl rfl
  have e11 : vs 11 = _ := hf 11 _ _ rfl rfl
  simp only [putAll, Nat.zero_add, Nat.reduceAdd, e0, e1, e2, e3, e4, e5, e6, e7, e8, e11, hgg6, Act.put, List.setIfInBounds_toArray, List.set_cons_succ, List.set_cons_zero]
  clear hJ hf hL e0 e1 e2 e3 e4 e5 e6 e7 e8 e11 hgg6 apg6 owng6
  rcases h1.out with ⟨rfl, hv⟩ | ⟨rfl, h2⟩
  · replace hv := show Hid _ from hv
    go_wp2
    go_ret
    exact ⟨by first | rfl | (rw [hv.out]; rfl), hK.2⟩
  replace h2 := show Hid _ from h2
  go_upto_region 7 with fail
  go_wp2_with (first
    | refine wpList_load_own (by rfl) 22 (.tmp 7) (by rfl) g2 (by rfl) (B32 (bdig R)) _ (hK.at g2 (B32 (bdig R)) 22 (.tail _ (.tail _ (.head _)))) Tryd.underlying22 (by rfl) (B32_info _) ?_
    | refine wpList_load_own (by rfl) 22 (.tmp 9) (by rfl) g6 (by rfl) (B32 f) _ (hK.at g6 (B32 f) 22 (.head _)) Tryd.underlying22 (by rfl) (B32_info _) ?_)
  refine (hA.out (by simp) _ (F.keep _ _ hT hK.2)).mono ?_
  rintro e V7 ⟨rfl, bw⟩
  have hK := hK.below bw
  clear bw
  go_upto_region 8 with (refine wpList_store_new (by rfl) 22 (.tmp 11) (.tmp 36) (by rfl) _ (B32 g) (by rfl) (by rfl) (B32_info _) (B32_sizes _ _) (B32_one _) (by rfl) ?_)
  have lt_g6 := (hK.at g6 (B32 f) 22 (.head _)).lt
  have lt_g3 := (hK.at g3 (B32 (bdig S)) 22 (.tail _ (.head _))).lt
  have lt_g2 := (hK.at g2 (B32 (bdig R)) 22 (.tail _ (.tail _ (.head _)))).lt
  have lt_bS := (hK.at bS (B64 (bdig (two R S))) 24 (.tail _ (.tail _ (.tail _ (.head _))))).lt
  have lt_bA := (hK.at bA (B32 (bdig p)) 22 (.tail _ (.tail _ (.tail _ (.tail _ (.head _)))))).lt
  have le_b8 := show Hid _ from hK.2.size
  have hK := hK.alloc (B32 g) 22
  generalize V7.alloc (.cells (B32 g) 22) = V9 at *
  obtain ⟨b8, Hb8⟩ : ∃ b, Hid (V7.heap.size = b) := ⟨_, rfl⟩
  have ne_g6_b8 : Hid (g6 ≠ b8) := by show _ ≠ _; rw [← Hb8.out]; exact Nat.ne_of_lt lt_g6
  have ne_g3_b8 : Hid (g3 ≠ b8) := by show _ ≠ _; rw [← Hb8.out]; exact Nat.ne_of_lt lt_g3
  have ne_g2_b8 : Hid (g2 ≠ b8) := by show _ ≠ _; rw [← Hb8.out]; exact Nat.ne_of_lt lt_g2
  have ne_bS_b8 : Hid (bS ≠ b8) := by show _ ≠ _; rw [← Hb8.out]; exact Nat.ne_of_lt lt_bS
  have ne_bA_b8 : Hid (bA ≠ b8) := by show _ ≠ _; rw [← Hb8.out]; exact Nat.ne_of_lt lt_bA
  have le_b8 : Hid (w.heap.size ≤ b8) := by show _ ≤ _; rw [← Hb8.out]; exact le_b8.out
  rw [Hb8.out] at hK ⊢
  clear lt_g6 lt_g3 lt_g2 lt_bS lt_bA
  rcases h2.out with ⟨rfl, hv⟩ | ⟨rfl, hv⟩
  · replace hv := show Hid _ from hv
    refine wp_region_vals 46 (by kernel_rfl) (by kernel_rfl) (by rfl) (valVer8n) (fun _ => Kp [(b8, B32 g, 22), (g6, B32 f, 22), (g3, B32 (bdig S), 22), (g2, B32 (bdig R), 22), (bS, B64 (bdig (two R S)), 24), (bA, B32 (bdig p), 22)] w) hK.drew ?_ ?_
    · intro L ac wc i o hF hLi ho hd K hK
      rcases i with _ | _ | _ | _ | _ | _ | _ | _ | _ | i
      · have ho' := ho
        obtain rfl := Option.some.inj ho
        have f10 : ac.tmps.getD 10 undef = .int .i64 (1) := slotv hF 0 hLi 10 (by kernel_rfl)
        refine step_do ho' (wanted_free rfl) ?_
        unfold Oper.wp
        go_simp
        exact hK _ _ (.inr rfl) hF.j
      · have ho' := ho
        obtain rfl := Option.some.inj ho
        have f38 : ac.tmps.getD 38 undef = .int .i64 (1) := valv hF hd 0 rfl rfl (by kernel_rfl)
        refine step_do ho' (wanted_free rfl) ?_
        unfold Oper.wp
        go_simp
        exact hK _ _ (.inr rfl) hF.j
      · have ho' := ho
        obtain rfl := Option.some.inj ho
        have f39 : ac.tmps.getD 39 undef = .bool false := valv hF hd 1 rfl rfl (by kernel_rfl)
        refine step_do ho' (wanted_free rfl) ?_
        unfold Oper.wp
        go_simp
        exact hK _ _ (.inr rfl) hF.j
      · have ho' := ho
        obtain rfl := Option.some.inj ho
        have fg : ac.tmps.getD 40 undef = .bool false := valv hF hd 2 rfl rfl (by kernel_rfl)
        exact step_pass ho' (wanted_not (g := 2) rfl rfl rfl fg (by decide)) (hK _ _ (.inr rfl) hF.j)
      · have ho' := ho
        obtain rfl := Option.some.inj ho
        have fg : ac.tmps.getD 40 undef = .bool false := valv hF hd 2 rfl rfl (by kernel_rfl)
        exact step_pass ho' (wanted_not (g := 2) rfl rfl rfl fg (by decide)) (hK _ _ (.inr rfl) hF.j)
      · have ho' := ho
        obtain rfl := Option.some.inj ho
        have fg : ac.tmps.getD 40 undef = .bool false := valv hF hd 2 rfl rfl (by kernel_rfl)
        exact step_pass ho' (wanted_not (g := 2) rfl rfl rfl fg (by decide)) (hK _ _ (.inr rfl) hF.j)
      · have ho' := ho
        obtain rfl := Option.some.inj ho
        have fg : ac.tmps.getD 40 undef = .bool false := valv hF hd 2 rfl rfl (by kernel_rfl)
        exact step_pass ho' (wanted_not (g := 2) rfl rfl rfl fg (by decide)) (hK _ _ (.inr rfl) hF.j)
      · have ho' := ho
        obtain rfl := Option.some.inj ho
        have f40 : ac.tmps.getD 40 undef = .bool false := valv hF hd 2 rfl rfl (by kernel_rfl)
        have f44 : ac.tmps.getD 44 undef = undef := valv hF hd 6 rfl rfl (by kernel_rfl)
        refine step_do ho' (wanted_free rfl) ?_
        unfold Oper.wp
        go_simp
        exact hK _ _ (.inr rfl) hF.j
      · have ho' := ho
        obtain rfl := Option.some.inj ho
        have f45 : ac.tmps.getD 45 undef = .bool false := valv hF hd 7 rfl rfl (by kernel_rfl)
        refine step_do ho' (wanted_free rfl) ?_
        unfold Oper.wp
        go_simp
        exact hK _ _ (.inr rfl) hF.j
      · cases ho
    intro L V10 hL hKq
    have hK : Kp [(b8, B32 g, 22), (g6, B32 f, 22), (g3, B32 (bdig S), 22), (g2, B32 (bdig R), 22), (bS, B64 (bdig (two R S)), 24), (bA, B32 (bdig p), 22)] w V10 := hKq
    clear hKq hL
    simp only [putAll, valVer8n, Act.put, List.setIfInBounds_toArray, List.set_cons_succ, List.set_cons_zero]
    go_wp2
    go_ret
    exact ⟨by first | rfl | (rw [hv.out]; rfl), hK.2⟩
  · replace hv := show Hid _ from hv
    refine wp_region_vals 46 (by kernel_rfl) (by kernel_rfl) (by rfl) (valVer8 S t g v0) (fun _ => Kp [(b8, B32 g, 22), (g6, B32 f, 22), (g3, B32 (bdig S), 22), (g2, B32 (bdig R), 22), (bS, B64 (bdig (two R S)), 24), (bA, B32 (bdig p), 22)] w) hK.drew ?_ ?_
    · intro L ac wc i o hF hLi ho hd K hK
      rcases i with _ | _ | _ | _ | _ | _ | _ | _ | _ | i
      · have ho' := ho
        obtain rfl := Option.some.inj ho
        have f10 : ac.tmps.getD 10 undef = .int .i64 (0) := slotv hF 0 hLi 10 (by kernel_rfl)
        refine step_do ho' (wanted_free rfl) ?_
        unfold Oper.wp
        go_simp
        exact hK _ _ (.inr rfl) hF.j
      · have ho' := ho
        obtain rfl := Option.some.inj ho
        have f38 : ac.tmps.getD 38 undef = .int .i64 (0) := valv hF hd 0 rfl rfl (by kernel_rfl)
        refine step_do ho' (wanted_free rfl) ?_
        unfold Oper.wp
        go_simp
        exact hK _ _ (.inr rfl) hF.j
      · have ho' := ho
        obtain rfl := Option.some.inj ho
        have f39 : ac.tmps.getD 39 undef = .bool true := valv hF hd 1 rfl rfl (by kernel_rfl)
        refine step_do ho' (wanted_free rfl) ?_
        unfold Oper.wp
        go_simp
        exact hK _ _ (.inr rfl) hF.j
      · have ho' := ho
        obtain rfl := Option.some.inj ho
        have f11 : ac.tmps.getD 11 undef = .pointer (some ⟨b8, 0, none⟩) := slotv hF 3 hLi 11 (by kernel_rfl)
        have fg : ac.tmps.getD 40 undef = .bool true := valv hF hd 2 rfl rfl (by kernel_rfl)
        refine step_do ho' (wanted_so (g := 2) rfl rfl rfl fg) ?_
        exact wp_load_own 22 (.tmp 11) rfl b8 f11 (B32 g) _ 22 (hF.j.at b8 (B32 g) 22 (.head _)) Tryd.underlying22 rfl (B32_info _) (hK _ _ (.inr rfl) hF.j)
      · have ho' := ho
        obtain rfl := Option.some.inj ho
        have f8 : ac.tmps.getD 8 undef = .pointer (some ⟨g3, 0, none⟩) := slotv hF 4 hLi 8 (by kernel_rfl)
        have fg : ac.tmps.getD 40 undef = .bool true := valv hF hd 2 rfl rfl (by kernel_rfl)
        refine step_do ho' (wanted_so (g := 2) rfl rfl rfl fg) ?_
        exact wp_load_own 22 (.tmp 8) rfl g3 f8 (B32 (bdig S)) _ 22 (hF.j.at g3 (B32 (bdig S)) 22 (.tail _ (.tail _ (.head _)))) Tryd.underlying22 rfl (B32_info _) (hK _ _ (.inr rfl) hF.j)
      · have ho' := ho
        obtain rfl := Option.some.inj ho
        have f42 : ac.tmps.getD 42 undef = .agg (B32 (bdig S)) := valv hF hd 4 rfl rfl (by kernel_rfl)
        have fg : ac.tmps.getD 40 undef = .bool true := valv hF hd 2 rfl rfl (by kernel_rfl)
        refine step_do ho' (wanted_so (g := 2) rfl rfl rfl fg) ?_
        unfold Oper.wp
        go_simp
        refine (F.baseA lS.out Ht.out _ (F.keep _ _ hT hF.j.2)).mono ?_
        rintro e w' ⟨rfl, hB⟩
        exact hK _ _ (.inr rfl) ((hF.j).below hB)
      · have ho' := ho
        obtain rfl := Option.some.inj ho
        have f41 : ac.tmps.getD 41 undef = .agg (B32 g) := valv hF hd 3 rfl rfl (by kernel_rfl)
        have f43 : ac.tmps.getD 43 undef = .agg (B32 (bdig t)) := valv hF hd 5 rfl rfl (by kernel_rfl)
        have fg : ac.tmps.getD 40 undef = .bool true := valv hF hd 2 rfl rfl (by kernel_rfl)
        refine step_do ho' (wanted_so (g := 2) rfl rfl rfl fg) ?_
        unfold Oper.wp
        go_simp
        exact hK _ _ (.inr rfl) hF.j
      · have ho' := ho
        obtain rfl := Option.some.inj ho
        have f40 : ac.tmps.getD 40 undef = .bool true := valv hF hd 2 rfl rfl (by kernel_rfl)
        have f44 : ac.tmps.getD 44 undef = .bool v0 := valv hF hd 6 rfl rfl (by kernel_rfl)
        refine step_do ho' (wanted_free rfl) ?_
        unfold Oper.wp
        go_simp
        exact hK _ _ (.inr rfl) hF.j
      · have ho' := ho
        obtain rfl := Option.some.inj ho
        have f45 : ac.tmps.getD 45 undef = .bool v0 := valv hF hd 7 rfl rfl (by kernel_rfl)
        refine step_do ho' (wanted_free rfl) ?_
        unfold Oper.wp
        go_simp
        exact hK _ _ (.inr rfl) hF.j
      · cases ho
    intro L V10 hL hKq
    have hK : Kp [(b8, B32 g, 22), (g6, B32 f, 22), (g3, B32 (bdig S), 22), (g2, B32 (bdig R), 22), (bS, B64 (bdig (two R S)), 24), (bA, B32 (bdig p), 22)] w V10 := hKq
    clear hKq hL
    simp only [putAll, valVer8, Act.put, List.setIfInBounds_toArray, List.set_cons_succ, List.set_cons_zero]
    go_wp2
    go_ret
    exact ⟨by first | rfl | (rw [hv.out (by simp)]; rfl), hK.2⟩
end Go.Proofs.YtfkcphbbabaefaaDoor
namespace Go.Proofs.YtfkcphbbabaefaaDoor
open Go Go.RowKit
theorem enc_R7 (P : Pt E5) : enc P < R256 := by rw [R256_HH]; exact enc_lt P
def numOf (n : Nat) : Nat := clamp (dn (by32 n) % R256)
def preOf (n : Nat) : Nat := dn (by32 n) / R256
def pubOf (n : Nat) : Nat := enc (Pt.times (numOf n) BP)
def bindOf (R p : Nat) (m : List Int) : Nat := dn (by32 R ++ (by32 p ++ m)) % LL
def onceOf (n : Nat) (m : List Int) : Nat := dn (by32 (preOf n) ++ m) % LL
def rOf (n : Nat) (m : List Int) : Nat := enc (Pt.times (onceOf n m) BP)
def sOf (n : Nat) (m : List Int) : Nat := (bindOf (rOf n m) (pubOf n) m * numOf n + onceOf n m) % LL
def sigOf (n : Nat) (m : List Int) : Nat := two (rOf n m) (sOf n m)
theorem pubOf_lt (n : Nat) : pubOf n < R256 := enc_R7 _
theorem rOf_lt (n : Nat) (m : List Int) : rOf n m < R256 := enc_R7 _
theorem sOf_lt (n : Nat) (m : List Int) : sOf n m < LL := Nat.mod_lt _ LL_pos
theorem sOf_lt2 (n : Nat) (m : List Int) : sOf n m < R256 := Nat.lt_trans (sOf_lt n m) LL_lt
def Signed (p : Nat) (m : List Int) (R S : Nat) : Prop := S < LL ∧ ∃ P Q : Pt E5, enc P = p ∧ enc Q = R ∧ enc (Q.add (Pt.times (bindOf R p m) P)) = enc (Pt.times S BP)
noncomputable def signedB (p : Nat) (m : List Int) (R S : Nat) : Bool := @decide (Signed p m R S) (Classical.propDecidable _)
theorem signedB_true {p : Nat} {m : List Int} {R S : Nat} : signedB p m R S = true ↔ Signed p m R S := by unfold signedB; exact @decide_eq_true_iff _ (Classical.propDecidable _)
theorem signedB_false {p : Nat} {m : List Int} {R S : Nat} (h : ¬ Signed p m R S) : signedB p m R S = false := by unfold signedB; exact @decide_eq_false _ (Classical.propDecidable _) h
theorem signedB_pts {P Q : Pt E5} {p : Nat} {m : List Int} {R S : Nat} (hS : S < LL) (hP : enc P = p) (hQ : enc Q = R) : signedB p m R S = decide (enc (Q.add (Pt.times (bindOf R p m) P)) = enc (Pt.times S BP)) := by
  by_cases h : enc (Q.add (Pt.times (bindOf R p m) P)) = enc (Pt.times S BP)
  · rw [decide_eq_true h]; exact signedB_true.2 ⟨hS, P, Q, hP, hQ, h⟩
  · rw [decide_eq_false h]
    refine signedB_false fun ⟨_, P', Q', hP', hQ', h'⟩ => h ?_
    rw [enc_inj (hP.trans hP'.symm), enc_inj (hQ.trans hQ'.symm)]; exact h'
theorem signedB_low {p : Nat} {m : List Int} {R S : Nat} (h : decide (S < LL) = false) : signedB p m R S = false := signedB_false fun hs => by
  rw [decide_eq_true hs.1] at h; cases h
theorem signedB_nop {p : Nat} {m : List Int} {R S : Nat} (h : ∀ P : Pt E5, enc P ≠ p) : signedB p m R S = false := signedB_false fun ⟨_, P, _, hP, _⟩ => h P hP
theorem signedB_nor {p : Nat} {m : List Int} {R S : Nat} (h : ∀ Q : Pt E5, enc Q ≠ R) : signedB p m R S = false := signedB_false fun ⟨_, _, Q, _, hQ, _⟩ => h Q hQ
section
variable {T : World → Prop} (F : Low T)
include F
theorem public_is (n : Nat) (w : World) (hT : T w) : Calls Tryd.prog 11 #[.agg (B32 (bdig n))] w fun x w' => x = .returned (.agg (B32 (bdig (pubOf n)))) ∧ Below w.heap.size w w' :=
  public_at F (lo := dn (by32 n) % R256) (hi := preOf n) (c := numOf n) (two_parts _).symm (lo_lt _) rfl rfl w hT
theorem sign_is (n : Nat) {ta : Option Addr} {tc : Nat} {m : List Int} (hl : m.length ≤ 1000) (w : World) (hT : T w) (hm : Txt w ta tc m) : Calls Tryd.prog 12 #[.agg (B32 (bdig n)), .slice ta m.length tc] w fun x w' => x = .returned (.agg (B64 (bdig (sigOf n m)))) ∧ Below w.heap.size w w' :=
  sign_at F (lo := dn (by32 n) % R256) (hi := preOf n) (c := numOf n) (y := pubOf n) (r := onceOf n m) (R := rOf n m) (k := bindOf (rOf n m) (pubOf n) m) (S := sOf n m) (two_parts _).symm (lo_lt _) rfl rfl rfl rfl rfl rfl hl w hT hm
theorem verify_is {p R S : Nat} {ta : Option Addr} {tc : Nat} {m : List Int} (lp : p < R256) (lR : R < R256) (lS : S < R256) (hl : m.length ≤ 1000) (w : World) (hT : T w) (hm : Txt w ta tc m) : Calls Tryd.prog 7 #[.agg (B32 (bdig p)), .slice ta m.length tc, .agg (B64 (bdig (two R S)))] w fun x w' => x = .returned (.bool (signedB p m R S)) ∧ Below w.heap.size w w' := by
  have lk : bindOf R p m < R256 := lt_of_modL
  have z0 : B32 (fun _ => 0) = B32 (bdig 0) := B32_ext fun i _ => (bdig_zero i).symm
  have lt := enc_R7 (Pt.times S BP)
  by_cases hp : ∃ P : Pt E5, enc P = p
  · obtain ⟨P, rfl⟩ := hp
    by_cases hR : ∃ Q : Pt E5, enc Q = R
    · obtain ⟨Q, rfl⟩ := hR
      refine verify_gen F lR lS rfl rfl (fun w hT => F.mul _ lk P w hT) (fun _ w hT => F.add Q _ w hT) rfl (fun w => B32_eq _ _ (enc_R7 _) lt w) (fun h => signedB_low h) (.inr ⟨rfl, .inr ⟨rfl, fun h => ?_⟩⟩) hl w hT hm
      exact (signedB_pts (of_decide_eq_true h) rfl rfl).symm
    · refine verify_gen F lR lS rfl rfl (fun w hT => F.mul _ lk P w hT) (fun _ w hT => F.add_not R _ lR (enc_R7 _) (.inl fun Q e => hR ⟨Q, e⟩) w hT) rfl (fun w => by rw [z0]; exact B32_eq _ _ (by decide) lt w) (fun h => signedB_low h) (.inr ⟨rfl, .inl ⟨rfl, signedB_nor fun Q e => hR ⟨Q, e⟩⟩⟩) hl w hT hm
  · have hn : ∀ P : Pt E5, enc P ≠ p := fun P e => hp ⟨P, e⟩
    exact verify_gen F (f := fun _ => 0) (g := bdig 0) (e1 := 1) (e2 := 0) lR lS rfl rfl (fun w hT => F.mul_not _ p lk lp hn w hT) (fun h => by cases h) rfl (fun w => B32_eq _ _ (by decide) lt w) (fun h => signedB_low h) (.inl ⟨rfl, signedB_nop hn⟩) hl w hT hm
end
end Go.Proofs.YtfkcphbbabaefaaDoor
namespace Go.Proofs.YtfkcphbbabaefaaDoor
open Go Go.RowKit
theorem pverify_is {p R S : Nat} {ta : Option Addr} {tc : Nat} {m : List Int} (lp : p < R256) (lR : R < R256) (lS : S < R256) (hl : m.length ≤ 1000) (w : World) (hm : Txt w ta tc m) : Calls Tryd.prog 8 #[.agg (B32 (bdig p)), .slice ta m.length tc, .agg (B64 (bdig (two R S)))] w fun x w' => x = .returned (.bool (signedB p m R S)) ∧ Below w.heap.size w w' := by
  have lk : bindOf R p m < R256 := lt_of_modL
  have lt := enc_R7 (Pt.times S BP)
  have z0 : B32 (fun _ => 0) = B32 (bdig 0) := B32_ext fun i _ => (bdig_zero i).symm
  by_cases hR : ∃ Q : Pt E5, enc Q = R
  · obtain ⟨Q, rfl⟩ := hR
    obtain ⟨rq, -, -, hD⟩ := page_dec Q
    by_cases hp : ∃ P : Pt E5, enc P = p
    · obtain ⟨P, rfl⟩ := hp
      refine pverify_gen lR lS rfl rfl (fun w => hD w) (fun w => ptimes _ lk P w) (fun _ _ w => psum Q _ w) rfl (fun w => B32_eq _ _ (enc_R7 _) lt w) (fun h => signedB_low h) (fun h => by cases h) (fun h => by cases h) (fun h _ _ => ?_) hl w hm
      exact (signedB_pts (of_decide_eq_true h) rfl rfl).symm
    · have hn : ∀ P : Pt E5, enc P ≠ p := fun P e => hp ⟨P, e⟩
      exact pverify_gen (g := bdig 0) (u3 := true) lR lS rfl rfl (fun w => hD w) (fun w => ptimes_not _ lp hn w) (fun _ h => by cases h) rfl (fun w => B32_eq _ _ (by decide) lt w) (fun h => signedB_low h) (fun h => by cases h) (fun _ => signedB_nop hn) (fun _ _ h => by cases h) hl w hm
  · have hn : ∀ Q : Pt E5, enc Q ≠ R := fun Q e => hR ⟨Q, e⟩
    by_cases hp : ∃ P : Pt E5, enc P = p
    · obtain ⟨P, rfl⟩ := hp
      exact pverify_gen (g := bdig 0) (u3 := true) lR lS rfl rfl (fun w => page_dec_not lR hn w) (fun w => ptimes _ lk P w) (fun h => by cases h) rfl (fun w => B32_eq _ _ (by decide) lt w) (fun h => signedB_low h) (fun _ => signedB_nor hn) (fun h => by cases h) (fun _ h => by cases h) hl w hm
    · have hn2 : ∀ P : Pt E5, enc P ≠ p := fun P e => hp ⟨P, e⟩
      exact pverify_gen (g := bdig 0) (u3 := true) lR lS rfl rfl (fun w => page_dec_not lR hn w) (fun w => ptimes_not _ lp hn2 w) (fun h => by cases h) rfl (fun w => B32_eq _ _ (by decide) lt w) (fun h => signedB_low h) (fun _ => signedB_nor hn) (fun _ => signedB_nop hn2) (fun _ h => by cases h) hl w hm
end Go.Proofs.YtfkcphbbabaefaaDoor
namespace Go.Proofs.YtfkcphbbabaefaaDoor
open Go Go.RowKit
def wkN : Nat := 43647624700350065415986689228612485845309737963740022737531181108678917972381
def wkC : Nat := 36144925721603087658594284515452164870581325872720374094707712194495455132720
def wkX : Nat := 38815646466658113194383306759739515082307681141926459231621296960732224964046
def wkY : Nat := 11903303657706407974989296177215005343713679411332034699907763981919547054807
theorem wk_text : by32 wkN = [157, 97, 177, 157, 239, 253, 90, 96, 186, 132, 74, 244, 146, 236, 44, 196, 68, 73, 197, 105, 123, 50, 105, 25, 112, 59, 172, 3, 28, 174, 127, 96] := by decide +kernel
theorem wk_digest : H.digest [157, 97, 177, 157, 239, 253, 90, 96, 186, 132, 74, 244, 146, 236, 44, 196, 68, 73, 197, 105, 123, 50, 105, 25, 112, 59, 172, 3, 28, 174, 127, 96] = [53, 124, 131, 134, 79, 40, 51, 203, 66, 122, 46, 241, 192, 10, 1, 60, 253, 255, 39, 104, 217, 128, 192, 163, 165, 32, 240, 6, 144, 77, 233, 15, 155, 79, 10, 254, 40, 11, 116, 106, 119, 134, 132, 231, 84, 66, 80, 32, 87, 183, 71, 58, 3, 240, 143, 150, 245, 163, 142, 146, 135, 224, 31, 143] := by decide +kernel
theorem wk_num : numOf wkN = wkC := by
  unfold numOf dn
  rw [wk_text, wk_digest]
  decide +kernel
def wit (r : N4) (x y : Nat) : Bool := r.X % pp == x * r.Z % pp && r.Y % pp == y * r.Z % pp
theorem enc_wit {P : Pt E5} {r : N4} (h : Rep4 P r) {x y : Nat} (hw : wit r x y = true) (lx : x < pp) (ly : y < pp) : enc P = y + HH * (x % 2) := by
  unfold wit at hw
  rw [Bool.and_eq_true, beq_iff_eq, beq_iff_eq] at hw
  obtain ⟨hx, hy, -, hz⟩ := h
  have hi := fq_inv hz
  have ax : fq r.X = fq x * fq r.Z := by rw [← fq_mul]; exact fq_eq.2 hw.1
  have ay : fq r.Y = fq y * fq r.Z := by rw [← fq_mul]; exact fq_eq.2 hw.2
  have ex : fq x = P.x := by
    generalize fq r.Z = z at *
    grind
  have ey : fq y = P.y := by
    generalize fq r.Z = z at *
    grind
  unfold enc
  rw [← ex, ← ey, fq_val, fq_val, Nat.mod_eq_of_lt lx, Nat.mod_eq_of_lt ly]
theorem wk_wit : wit (mul4 base4 256 wkC) wkX wkY = true := by decide +kernel
theorem wk_pub : pubOf wkN = wkY + HH * (wkX % 2) := by
  unfold pubOf
  rw [wk_num]
  exact enc_wit (base_rep.mul 256 wkC (by decide +kernel)) wk_wit (by decide +kernel) (by decide +kernel)
theorem wk_arr : B32 (bdig wkN) = #[.int .u8 157, .int .u8 97, .int .u8 177, .int .u8 157, .int .u8 239, .int .u8 253, .int .u8 90, .int .u8 96, .int .u8 186, .int .u8 132, .int .u8 74, .int .u8 244, .int .u8 146, .int .u8 236, .int .u8 44, .int .u8 196, .int .u8 68, .int .u8 73, .int .u8 197, .int .u8 105, .int .u8 123, .int .u8 50, .int .u8 105, .int .u8 25, .int .u8 112, .int .u8 59, .int .u8 172, .int .u8 3, .int .u8 28, .int .u8 174, .int .u8 127, .int .u8 96] := by rfl
theorem wk_b0 : bdig (pubOf wkN) 0 = 215 := by rw [wk_pub]; decide +kernel
theorem wk_b1 : bdig (pubOf wkN) 1 = 90 := by rw [wk_pub]; decide +kernel
theorem wk_b2 : bdig (pubOf wkN) 2 = 152 := by rw [wk_pub]; decide +kernel
theorem wk_b31 : bdig (pubOf wkN) 31 = 26 := by rw [wk_pub]; decide +kernel
set_option maxRecDepth 100000 in
set_option maxHeartbeats 2000000 in
theorem wakes_is {T : World → Prop} (F : Low T) (w : World) (hT : T w) : Calls Tryd.prog 10 #[] w fun x w' => x = .returned (.bool true) ∧ Below w.heap.size w w' := by
  have hz := (zero_of_info zeroB32).1
  obtain ⟨n, Hn⟩ : ∃ n, Hid (wkN = n) := ⟨_, rfl⟩
  obtain ⟨y, Hy⟩ : ∃ y, Hid (pubOf n = y) := ⟨_, rfl⟩
  have Ha : Hid (B32 (bdig n) = #[.int .u8 157, .int .u8 97, .int .u8 177, .int .u8 157, .int .u8 239, .int .u8 253, .int .u8 90, .int .u8 96, .int .u8 186, .int .u8 132, .int .u8 74, .int .u8 244, .int .u8 146, .int .u8 236, .int .u8 44, .int .u8 196, .int .u8 68, .int .u8 73, .int .u8 197, .int .u8 105, .int .u8 123, .int .u8 50, .int .u8 105, .int .u8 25, .int .u8 112, .int .u8 59, .int .u8 172, .int .u8 3, .int .u8 28, .int .u8 174, .int .u8 127, .int .u8 96]) := by show _ = _; rw [← Hn.out]; exact wk_arr
  have Hb0 : Hid (bdig y 0 = 215) := by show _ = _; rw [← Hy.out, ← Hn.out]; exact wk_b0
  have Hb1 : Hid (bdig y 1 = 90) := by show _ = _; rw [← Hy.out, ← Hn.out]; exact wk_b1
  have Hb2 : Hid (bdig y 2 = 152) := by show _ = _; rw [← Hy.out, ← Hn.out]; exact wk_b2
  have Hb31 : Hid (bdig y 31 = 26) := by show _ = _; rw [← Hy.out, ← Hn.out]; exact wk_b31
  have hp : Hid (∀ w, T w → Calls Tryd.prog 11 #[.agg (B32 (bdig n))] w fun x w' => x = .returned (.agg (B32 (bdig y))) ∧ Below w.heap.size w w') := fun w hT => by rw [← Hy.out]; exact public_is F n w hT
  go_enter Tryd.func10, Tryd.ntmps10
  go_upto_region 1 with fail
  have hK := Kp.nil w
  go_upto_region 2 with (first
    | refine H.wpList_build (by rfl) 22 _ rfl (.agg (B32 (bdig n))) (by rw [Ha.out]; kernel_rfl) ?_
    | refine wpList_store_new (by rfl) 22 (.tmp 1) (.tmp 3) (by rfl) _ (B32 (bdig n)) (by rfl) (by rfl) (B32_info _) (B32_sizes _ _) (B32_one _) (by rfl) ?_)
  have hK := hK.alloc (B32 (bdig n)) 22
  generalize w.alloc (.cells (B32 (bdig n)) 22) = V1 at *
  obtain ⟨bA, HbA⟩ : ∃ b, Hid (w.heap.size = b) := ⟨_, rfl⟩
  have le_bA : Hid (w.heap.size ≤ bA) := by show _ ≤ _; rw [HbA.out]; exact Nat.le_refl _
  rw [HbA.out] at hK ⊢
  go_wp2_with (refine wpList_load_own (by rfl) 22 (.tmp 1) (by rfl) bA (by rfl) (B32 (bdig n)) _ (hK.at bA (B32 (bdig n)) 22 (.head _)) Tryd.underlying22 (by rfl) (B32_info _) ?_)
  refine (hp.out _ (F.keep _ _ hT hK.2)).mono ?_
  rintro e V2 ⟨rfl, bw⟩
  have hK := hK.below bw
  clear bw
  go_upto_region 3 with (refine wpList_store_new (by rfl) 22 (.tmp 2) (.tmp 5) (by rfl) _ (B32 (bdig y)) (by rfl) (by rfl) (B32_info _) (B32_sizes _ _) (B32_one _) (by rfl) ?_)
  have hK := hK.alloc (B32 (bdig y)) 22
  generalize V2.alloc (.cells (B32 (bdig y)) 22) = V4 at *
  obtain ⟨b3, Hb3⟩ : ∃ b, Hid (V2.heap.size = b) := ⟨_, rfl⟩
  rw [Hb3.out] at hK ⊢
  have c0 : V4.cell? ⟨b3, 0, none⟩ = some (.int .u8 215) := by have := (hK.at b3 (B32 (bdig y)) 22 (.head _)).cell (B32_at (bdig y) 0 (by decide)); rw [Hb0.out] at this; exact this
  have c1 : V4.cell? ⟨b3, 1, none⟩ = some (.int .u8 90) := by have := (hK.at b3 (B32 (bdig y)) 22 (.head _)).cell (B32_at (bdig y) 1 (by decide)); rw [Hb1.out] at this; exact this
  have c2 : V4.cell? ⟨b3, 2, none⟩ = some (.int .u8 152) := by have := (hK.at b3 (B32 (bdig y)) 22 (.head _)).cell (B32_at (bdig y) 2 (by decide)); rw [Hb2.out] at this; exact this
  have c3 : V4.cell? ⟨b3, 31, none⟩ = some (.int .u8 26) := by have := (hK.at b3 (B32 (bdig y)) 22 (.head _)).cell (B32_at (bdig y) 31 (by decide)); rw [Hb31.out] at this; exact this
  go_wp2
  go_ret
  exact ⟨rfl, hK.2⟩
end Go.Proofs.YtfkcphbbabaefaaDoor
