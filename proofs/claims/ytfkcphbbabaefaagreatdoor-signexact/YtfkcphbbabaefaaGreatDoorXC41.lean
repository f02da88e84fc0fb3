/- Of the texts SC1: what the card of this claim reaches. -/
import Derived.Test.YtfkcphbbabaefaaGreatDoorXC39
import Derived.Test.YtfkcphbbabaefaaGreatDoorXC40
import Derived.Test.YtfkcphbbabaefaaGreatDoorXC38
namespace Go.Proofs.YtfkcphbbabaefaaGreatDoor
open Go Go.RowKit
theorem pmodL64 {a c bS cap : Nat} {w : World} {t : TypeId} (ho : Own w bS (B64 (bdig a)) t) (ha : a < R512) (hc : a % LL = c) : Calls Tryz.prog 26 #[.slice (some ⟨bS, 0, none⟩) 64 cap] w fun x w' => x = .returned (.agg (B32 (bdig c))) ∧ Below w.heap.size w w' := by
  have h := modLs_any (bdig a) 64 bS cap (by decide) (fun i _ => bdig_lt a i) w ho.lt (fun i hi => ho.cell (B64_at _ i hi))
  rw [vb64 ha, hc] at h
  exact h
theorem pjoin {a : Option Addr} {len cap : Nat} {ms : List (List Int)} {l : List Int} (hl : ms.flatten = l) (hn : l.length ≤ 1000000) (w : World) (hR : H.RowsV w a len cap ms) :
    Calls Tryz.prog 25 #[.slice a len cap] w fun e w' => ∃ a' cap', e = .returned (.slice a' l.length cap') ∧ H.BytesV w' a' l.length cap' l ∧ (a' = none → cap' = 0) ∧ Below w.heap.size w w' := by
  subst hl; exact H.join_any a len cap ms w hR hn
theorem psum512 {a : Option Addr} {cap z : Nat} {l : List Int} (hz : dn l = z) (hn : l.length ≤ 1000000) (w : World) (hm : Txt w a cap l) :
    Calls Tryz.prog 24 #[.slice a l.length cap] w fun e w' => e = .returned (.agg (B64 (bdig z))) ∧ Below w.heap.size w w' := by
  subst hz; rw [← dig_dn]; exact H.ref_any a cap l w hm.1 hm.2 hn
def factChal (z bA bB : Nat) (ta : Option Addr) (tc : Nat) (m l : List Int) : Nat → Value → Prop
  | 0, vq => vq = .slice (some ⟨bA, 0, none⟩) 32 32
  | 1, vq => vq = .slice (some ⟨bB, 0, none⟩) 32 32
  | 2, vq => vq = .slice ta m.length tc
  | 5, vq => vq = .agg (B64 (bdig z))
  | 6, vq => ∃ g, vq = .pointer (some ⟨g, 0, none⟩)
  | 3, vq => ∃ aq, vq = .slice aq 3 3
  | 4, vq => ∃ aq cq, vq = .slice aq l.length cq
  | _, _ => True
set_option maxRecDepth 100000 in
set_option maxHeartbeats 1000000 in
theorem challenge_at {p q k : Nat} {ta : Option Addr} {tc : Nat} {m : List Int} (Hk : Hid (dn (by32 p ++ (by32 q ++ m)) % LL = k)) (hl : m.length ≤ 1000) (w : World) (hm : Txt w ta tc m) : Calls Tryz.prog 28 #[.agg (B32 (bdig p)), .agg (B32 (bdig q)), .slice ta m.length tc] w fun x w' => x = .returned (.agg (B32 (bdig k))) ∧ Below w.heap.size w w' := by
  have hz := (zero_of_info zeroB32).1
  have hz64 := (zero_of_info zeroB64).1
  obtain ⟨l, Hl⟩ : ∃ l, Hid (by32 p ++ (by32 q ++ m) = l) := ⟨_, rfl⟩
  obtain ⟨z, Hz⟩ : ∃ z, Hid (dn l = z) := ⟨_, rfl⟩
  have hzl : Hid (z < R512) := by show _ < _; rw [← Hz.out]; exact dn_lt _
  have hzk : Hid (z % LL = k) := by show _ = _; rw [← Hz.out, ← Hl.out]; exact Hk.out
  have hfl : Hid ([by32 p, by32 q, m].flatten = l) := by show _ = _; rw [← Hl.out]; simp
  have hln : Hid (l.length ≤ 1000000) := by show _ ≤ _; rw [← Hl.out, List.length_append, List.length_append, by32_length, by32_length]; omega
  go_enter Tryz.func28, Tryz.ntmps28
  go_upto_region 1 with fail
  have hK := (((Kp.nil w).alloc (B32 (bdig p)) 22).alloc (B32 (bdig q)) 22).alloc (B32 fun _ => 0) 22
  rw [World.size_alloc, World.size_alloc] at hK
  generalize ((w.alloc (.cells (B32 (bdig p)) 22)).alloc (.cells (B32 (bdig q)) 22)).alloc (.cells (B32 fun _ => 0) 22) = W at *
  obtain ⟨bA, HbA⟩ : ∃ b, Hid (w.heap.size = b) := ⟨_, rfl⟩
  obtain ⟨bB, HbB⟩ : ∃ b, Hid (bA + 1 = b) := ⟨_, rfl⟩
  obtain ⟨bR, HbR⟩ : ∃ b, Hid (bB + 1 = b) := ⟨_, rfl⟩
  have le_bA : Hid (w.heap.size ≤ bA) := by show _ ≤ _; have := HbA.out; omega
  have le_bB : Hid (w.heap.size ≤ bB) := by show _ ≤ _; have := HbA.out; have := HbB.out; omega
  have le_bR : Hid (w.heap.size ≤ bR) := by show _ ≤ _; have := HbA.out; have := HbB.out; have := HbR.out; omega
  have ne_bA_bB : Hid (bA ≠ bB) := by show _ ≠ _; have := HbB.out; omega
  have ne_bA_bR : Hid (bA ≠ bR) := by show _ ≠ _; have := HbB.out; have := HbR.out; omega
  have ne_bB_bR : Hid (bB ≠ bR) := by show _ ≠ _; have := HbR.out; omega
  rw [HbA.out, HbB.out, HbR.out] at hK ⊢
  refine wp_region_told 16 (by kernel_rfl) (by kernel_rfl) (by rfl) (factChal z bA bB ta tc m l) (fun L vs wq => MkN 1 [(bR, B32 fun _ => 0, 22), (bB, B32 (bdig q), 22), (bA, B32 (bdig p), 22)] w (fun _ => B64 fun _ => 0) (fun _ => B64 (bdig z)) (fun _ => 26) (fun i => L (6 + i)) (fun i => L (7 + i)) (fun i => vs (6 + i)) wq ∧ (L 3 = true → L 4 = false → ∃ aq, vs 3 = .slice aq 3 3 ∧ H.RowsV wq aq 3 3 [by32 p, by32 q, m]) ∧ (L 4 = true → L 5 = false → ∃ aq cq, vs 4 = .slice aq l.length cq ∧ Txt wq aq cq l)) (fun _ => ⟨MkN.drew hK (fun _ _ => rfl), (fun h => by cases h), (fun h => by cases h)⟩) ?_ ?_
  · intro L vs ac wc i o hF hLi ho hd K hK
    rcases i with _ | _ | _ | _ | _ | _ | _ | _ | i
    · have ho' := ho
      obtain rfl := Option.some.inj ho
      have f3 : ac.tmps.getD 3 undef = .pointer (some ⟨bA, 0, none⟩) := slott hF 0 hLi 3 (by kernel_rfl)
      refine step_do ho' (wanted_free rfl) ?_
      unfold Oper.wp
      go_simp
      exact hK _ _ (.inr rfl) ⟨(hF.j.1.congr (fun i hi => if_off (by decide) hi) (fun i hi => if_off (by decide) hi) (fun i hi => if_off (by decide) hi)), hF.j.2.1, hF.j.2.2⟩
    · have ho' := ho
      obtain rfl := Option.some.inj ho
      have f4 : ac.tmps.getD 4 undef = .pointer (some ⟨bB, 0, none⟩) := slott hF 1 hLi 4 (by kernel_rfl)
      refine step_do ho' (wanted_free rfl) ?_
      unfold Oper.wp
      go_simp
      exact hK _ _ (.inr rfl) ⟨(hF.j.1.congr (fun i hi => if_off (by decide) hi) (fun i hi => if_off (by decide) hi) (fun i hi => if_off (by decide) hi)), hF.j.2.1, hF.j.2.2⟩
    · have ho' := ho
      obtain rfl := Option.some.inj ho
      have f2 : ac.tmps.getD 2 undef = .slice ta m.length tc := slott hF 2 hLi 2 (by kernel_rfl)
      refine step_do ho' (wanted_free rfl) ?_
      unfold Oper.wp
      go_simp
      exact hK _ _ (.inr rfl) ⟨(hF.j.1.congr (fun i hi => if_off (by decide) hi) (fun i hi => if_off (by decide) hi) (fun i hi => if_off (by decide) hi)), hF.j.2.1, hF.j.2.2⟩
    · have ho' := ho
      obtain rfl := Option.some.inj ho
      have f8 : ac.tmps.getD 8 undef = .slice (some ⟨bA, 0, none⟩) 32 32 := (factt hF hd 0 rfl rfl (by kernel_rfl)).1.trans (factt hF hd 0 rfl rfl (by kernel_rfl)).2
      have f9 : ac.tmps.getD 9 undef = .slice (some ⟨bB, 0, none⟩) 32 32 := (factt hF hd 1 rfl rfl (by kernel_rfl)).1.trans (factt hF hd 1 rfl rfl (by kernel_rfl)).2
      have f10 : ac.tmps.getD 10 undef = .slice ta m.length tc := (factt hF hd 2 rfl rfl (by kernel_rfl)).1.trans (factt hF hd 2 rfl rfl (by kernel_rfl)).2
      refine step_do ho' (wanted_free rfl) ?_
      have q8 := getq f8
      have q9 := getq f9
      have q10 := getq f10
      unfold Oper.wp
      go_simp
      exact hK _ _ (.inr ⟨_, rfl⟩) ⟨((hF.j.1.congr (fun i hi => if_off (by decide) hi) (fun i hi => if_off (by decide) hi) (fun i hi => if_off (by decide) hi))).below (alloc_below _ _), (fun _ _ => ⟨_, rfl, rows3 (bytes_own (hF.j.1.1.at bA (B32 (bdig p)) 22 (.tail _ (.tail _ (.head _))))) (fun h => by cases h) (bytes_own (hF.j.1.1.at bB (B32 (bdig q)) 22 (.tail _ (.head _)))) (fun h => by cases h) ((hm.below hF.j.1.1.2).1) hm.2⟩), (fun h1 h2 => txt_bel (hF.j.2.2 h1 h2) (alloc_below _ _))⟩
    · have ho' := ho
      obtain rfl := Option.some.inj ho
      refine step_do ho' (wanted_free rfl) ?_
      obtain ⟨aq, eq, hq⟩ := hF.j.2.1 (dep hd 3 (by kernel_rfl)) hLi
      have f11 := (factt hF hd 3 rfl rfl (by kernel_rfl)).1
      rw [eq] at f11
      unfold Oper.wp
      go_simp
      refine (pjoin hfl.out hln.out _ hq).mono ?_
      rintro e w' ⟨aj, cj, rfl, hv, hn, hB⟩
      exact hK _ _ (.inr ⟨_, _, rfl⟩) ⟨((hF.j.1.congr (fun i hi => if_off (by decide) hi) (fun i hi => if_off (by decide) hi) (fun i hi => if_off (by decide) hi))).below hB, (fun _ h => by cases h), (fun _ _ => ⟨_, _, rfl, hv, hn⟩)⟩
    · have ho' := ho
      obtain rfl := Option.some.inj ho
      refine step_do ho' (wanted_free rfl) ?_
      obtain ⟨aq, cq, eq, hq⟩ := hF.j.2.2 (dep hd 4 (by kernel_rfl)) hLi
      have f12 := (factt hF hd 4 rfl rfl (by kernel_rfl)).1
      rw [eq] at f12
      unfold Oper.wp
      go_simp
      refine (psum512 Hz.out hln.out _ hq).mono ?_
      rintro e w' ⟨rfl, hB⟩
      exact hK _ _ (.inr rfl) ⟨((hF.j.1.congr (fun i hi => if_off (by decide) hi) (fun i hi => if_off (by decide) hi) (fun i hi => if_off (by decide) hi))).below hB, (fun h1 h2 => rows_bel (hF.j.2.1 h1 h2) hB), (fun _ h => by cases h)⟩
    · have ho' := ho
      obtain rfl := Option.some.inj ho
      refine step_do ho' (wanted_free rfl) ?_
      have hs := notyett hF 6 hLi 7 rfl (by kernel_rfl)
      unfold Oper.wp
      go_simp
      exact hK _ _ (.inr ⟨_, rfl⟩) ⟨hF.j.1.alloc 0 (fun i _ hne => if_oth (k := 0) rfl hne) (fun i hi => if_off (by decide) hi) (fun i _ hne => if_oth (k := 0) rfl hne) rfl hs, (fun h1 h2 => rows_bel (hF.j.2.1 h1 h2) (alloc_below _ _)), (fun h1 h2 => txt_bel (hF.j.2.2 h1 h2) (alloc_below _ _))⟩
    · have ho' := ho
      obtain rfl := Option.some.inj ho
      have f13 : ac.tmps.getD 13 undef = .agg (B64 (bdig z)) := (factt hF hd 5 rfl rfl (by kernel_rfl)).1.trans (factt hF hd 5 rfl rfl (by kernel_rfl)).2
      refine step_do ho' (wanted_free rfl) ?_
      have hq5 := dep hd 5 (by kernel_rfl)
      have hq4 := dept hF 5 rfl hq5 4 (by kernel_rfl)
      obtain ⟨fg, gq, hg⟩ := factt hF hd 6 rfl rfl (by kernel_rfl)
      have hm_ := dep hd 6 (by kernel_rfl)
      have hj := hF.j.1
      rw [hg] at fg
      have hj2 := hj.at (k := 0) (by decide) hm_ hg hLi
      refine wp_store_own 26 (.tmp 7) (.tmp 13) rfl gq (B64 (bdig z)) fg f13 hj2.2.2 (B64_sizes _ _) (B64_info _) (B64_one _) rfl ?_
      exact hK undef _ (.inl rfl) ⟨hj.storeA (k := 0) (A := B64 (bdig z)) rfl (by decide) hm_ hg hLi (B64_sizes _ _) (fun i hi => if_off (by decide) hi) (fun i _ hne => if_oth (k := 0) rfl hne) (fun i hi => if_off (by decide) hi) rfl, (fun _ h => by have h : L 4 = false := h; rw [hq4] at h; cases h), (fun _ h => by have h : L 5 = false := h; rw [hq5] at h; cases h)⟩
    · cases ho
  intro L vs V1 hL hJ hf
  have hJ := hJ.1
  obtain ⟨aq3, eb3⟩ := hf 3 _ _ rfl rfl
  obtain ⟨aq4, cq, eb4⟩ := hf 4 _ _ rfl rfl
  obtain ⟨g2, hgg2⟩ := hf 6 _ _ rfl rfl
  obtain ⟨le0, apg2, owng2⟩ := hJ.gotA (k := 0) (A := B64 (bdig z)) rfl (by decide) (hL 6 (by decide)) hgg2 (hL 7 (by decide))
  have le_g2 := show Hid _ from le0
  clear le0
  have ne_bR_g2 : Hid (bR ≠ g2) := apg2 (bR, B32 fun _ => 0, 22) (.head _)
  have ne_bB_g2 : Hid (bB ≠ g2) := apg2 (bB, B32 (bdig q), 22) (.tail _ (.head _))
  have ne_bA_g2 : Hid (bA ≠ g2) := apg2 (bA, B32 (bdig p), 22) (.tail _ (.tail _ (.head _)))
  have hK : Kp [(g2, B64 (bdig z), 26), (bR, B32 fun _ => 0, 22), (bB, B32 (bdig q), 22), (bA, B32 (bdig p), 22)] w V1 := (hJ.1.cons owng2)
  have e0 : vs 0 = _ := hf 0 _ _ rfl rfl
  have e1 : vs 1 = _ := hf 1 _ _ rfl rfl
  have e2 : vs 2 = _ := hf 2 _ _ rfl rfl
  have e5 : vs 5 = _ := hf 5 _ _ rfl rfl
  simp only [putAll, Nat.zero_add, Nat.reduceAdd, e0, e1, e2, e5, eb3, eb4, hgg2, Act.put, List.setIfInBounds_toArray, List.set_cons_succ, List.set_cons_zero]
  clear hJ hf hL e0 e1 e2 e5 eb3 eb4 hgg2 apg2 owng2
  go_wp2_with fail
  refine (pmodL64 (hK.at g2 (B64 (bdig z)) 26 (.head _)) hzl.out hzk.out).mono ?_
  rintro e V3 ⟨rfl, bw⟩
  have hK := hK.below bw
  clear bw
  go_wp2_with (refine wpList_store_own (op := { dst := none, op := _, type := _, pos := _, after := _, guard := _ }) rfl 22 (.tmp 6) (.tmp 15) rfl bR 0 (B32 (bdig k)) (by rfl) (by rfl) (hK.at bR (B32 fun _ => 0) 22 (.tail _ (.head _))) (B32_le _ _) (B32_info _) (B32_one _) (by rfl) ?_)
  exact bodyPost_ret (results_own Tryz.results28 _ _ bR (B32 (bdig k)) _ (by rfl) (own_setCells (hK.at bR (B32 fun _ => 0) 22 (.tail _ (.head _))) (B32_sizes _ _)) Tryz.underlying22 rfl (B32_info _)) rfl ⟨rfl, Below.setCells _ _ _ _ le_bR.out hK.2⟩
end Go.Proofs.YtfkcphbbabaefaaGreatDoor
