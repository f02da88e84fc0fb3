/- Of the texts G4: what the card of this claim reaches. -/
import Derived.Test.YtfkcphbbabaefaaDoorXB13
namespace Go.Proofs.YtfkcphbbabaefaaDoor
open Go Go.RowKit
theorem bdig_odd (x : Nat) : bdig x 0 % 2 = x % 2 := by
  unfold bdig
  rw [Nat.pow_zero, Nat.div_one]
  omega
theorem and1_u8 (x : Nat) : bits .and .u8 (bdig x 0 : Int) 1 = ((x % 2 : Nat) : Int) := by
  have h := u8_and_nat (bdig x 0) 1 (bdig_lt _ _) (by decide)
  rw [Nat.and_one_is_mod, bdig_odd] at h
  exact h
def factWr (bP X Y zi x y : Nat) : Nat → Value → Prop
  | 0, vq => vq = .pointer (some ⟨bP, 0, none⟩)
  | 1, vq => vq = .agg (B32 (bdig X))
  | 2, vq => vq = .agg (B32 (bdig zi))
  | 3, vq => vq = .agg (B32 (bdig x))
  | 4, vq => vq = .pointer (some ⟨bP, 32, none⟩)
  | 5, vq => vq = .agg (B32 (bdig Y))
  | 6, vq => vq = .agg (B32 (bdig zi))
  | 7, vq => vq = .agg (B32 (bdig y))
  | 8, vq => ∃ g, vq = .pointer (some ⟨g, 0, none⟩)
  | 9, vq => ∃ g, vq = .pointer (some ⟨g, 0, none⟩)
  | _, _ => True
set_option maxRecDepth 100000 in
set_option maxHeartbeats 4000000 in
theorem write_nat {X Y Z : Nat} (hX : Hid (X < R256)) (hY : Hid (Y < R256)) (hZ : Hid (Z < R256)) (w : World) (hT : TC w) : Calls Tryd.prog 38 #[.agg (QA ⟨X, Y, Z⟩)] w fun e w' => e = .returned (.agg (B32 (bdig (Y * finv Z % pp + HH * (X * finv Z % pp % 2))))) ∧ Below w.heap.size w w' := by
  have hz := (zero_of_info zeroB32).1
  obtain ⟨zi, Hzi⟩ : ∃ x, Hid (finv Z = x) := ⟨_, rfl⟩
  have hzi : Hid (zi < R256) := by show _ < _; rw [← Hzi.out]; exact finv_lR _
  rw [Hzi.out]
  obtain ⟨x, Hx⟩ : ∃ x, Hid (X * zi % pp = x) := ⟨_, rfl⟩
  obtain ⟨y, Hy⟩ : ∃ x, Hid (Y * zi % pp = x) := ⟨_, rfl⟩
  have hyH : Hid (y < HH) := by show _ < _; rw [← Hy.out]; exact Nat.lt_trans (Nat.mod_lt _ pp_pos) pp_HH
  rw [Hx.out, Hy.out]
  go_enter Tryd.func38, Tryd.ntmps38
  go_upto_region 1 with fail
  have hK := ((Kp.nil w).alloc (QA ⟨X, Y, Z⟩) 68).alloc (B32 fun _ => 0) 22
  rw [World.size_alloc] at hK
  generalize (w.alloc (.cells (QA ⟨X, Y, Z⟩) 68)).alloc (.cells (B32 fun _ => 0) 22) = W at *
  obtain ⟨bP, HbP⟩ : ∃ b, Hid (w.heap.size = b) := ⟨_, rfl⟩
  obtain ⟨bR, HbR⟩ : ∃ b, Hid (bP + 1 = b) := ⟨_, rfl⟩
  have le_bP : Hid (w.heap.size ≤ bP) := by show _ ≤ _; have := HbP.out; omega
  have le_bR : Hid (w.heap.size ≤ bR) := by show _ ≤ _; have := HbP.out; have := HbR.out; omega
  have ne_bP_bR : Hid (bP ≠ bR) := by show _ ≠ _; have := HbR.out; omega
  rw [HbP.out, HbR.out] at hK ⊢
  go_wp2_with (refine wpList_load_prt (by rfl) 2 (by decide) (.tmp 6) (by rfl) bP (by rfl) (hK.at bP (QA ⟨X, Y, Z⟩) 68 (.tail _ (.head _))) ?_)
  refine (cinv hZ.out Hzi.out _ (TC.keep hT hK.2)).mono ?_
  rintro e V1 ⟨rfl, bw⟩
  have hK := hK.below bw
  clear bw
  go_upto_region 2 with (refine wpList_store_new (by rfl) 22 (.tmp 3) (.tmp 8) (by rfl) _ (B32 (bdig zi)) (by rfl) (by rfl) (B32_info _) (B32_sizes _ _) (B32_one _) (by rfl) ?_)
  have lt_bR := (hK.at bR (B32 fun _ => 0) 22 (.head _)).lt
  have lt_bP := (hK.at bP (QA ⟨X, Y, Z⟩) 68 (.tail _ (.head _))).lt
  have le_b2 := show Hid _ from hK.2.size
  have hK := hK.alloc (B32 (bdig zi)) 22
  generalize V1.alloc (.cells (B32 (bdig zi)) 22) = V3 at *
  obtain ⟨b2, Hb2⟩ : ∃ b, Hid (V1.heap.size = b) := ⟨_, rfl⟩
  have ne_bR_b2 : Hid (bR ≠ b2) := by show _ ≠ _; rw [← Hb2.out]; exact Nat.ne_of_lt lt_bR
  have ne_bP_b2 : Hid (bP ≠ b2) := by show _ ≠ _; rw [← Hb2.out]; exact Nat.ne_of_lt lt_bP
  have le_b2 : Hid (w.heap.size ≤ b2) := by show _ ≤ _; rw [← Hb2.out]; exact le_b2.out
  rw [Hb2.out] at hK ⊢
  clear lt_bR lt_bP
  obtain ⟨Af4, Af4_0, Af4_1⟩ : ∃ qf : Nat → Array Value, Hid (qf 0 = B32 (bdig x)) ∧ Hid (qf 1 = B32 (bdig y)) := ⟨fun qi => ([B32 (bdig x), B32 (bdig y)] : List (Array Value)).getD qi #[], by show _ = _; simp, by show _ = _; simp⟩
  refine wp_region_told 26 (by kernel_rfl) (by kernel_rfl) (by rfl) (factWr bP X Y zi x y) (fun L vs => MkN 2 [(b2, B32 (bdig zi), 22), (bR, B32 fun _ => 0, 22), (bP, QA ⟨X, Y, Z⟩, 68)] w (fun _ => B32 fun _ => 0) (Af4) (fun _ => 22) (fun i => L (8 + i)) (fun i => L (10 + i)) (fun i => vs (8 + i))) (fun _ => MkN.drew hK (fun _ _ => rfl)) ?_ ?_
  · intro L vs ac wc i o hF hLi ho hd K hK
    rcases i with _ | _ | _ | _ | _ | _ | _ | _ | _ | _ | _ | _ | i
    · have ho' := ho
      obtain rfl := Option.some.inj ho
      have f1 : ac.tmps.getD 1 undef = .pointer (some ⟨bP, 0, none⟩) := slott hF 0 hLi 1 (by kernel_rfl)
      refine step_do ho' (wanted_free rfl) ?_
      unfold Oper.wp
      go_simp
      exact hK _ _ (.inr rfl) (hF.j.congr (fun i hi => if_off (by decide) hi) (fun i hi => if_off (by decide) hi) (fun i hi => if_off (by decide) hi))
    · have ho' := ho
      obtain rfl := Option.some.inj ho
      have f9 : ac.tmps.getD 9 undef = .pointer (some ⟨bP, 0, none⟩) := (factt hF hd 0 rfl rfl (by kernel_rfl)).1.trans (factt hF hd 0 rfl rfl (by kernel_rfl)).2
      refine step_do ho' (wanted_free rfl) ?_
      exact wp_load_prt 0 (by decide) (.tmp 9) rfl bP f9 (hF.j.1.at bP (QA ⟨X, Y, Z⟩) 68 (.tail _ (.tail _ (.head _)))) (hK _ _ (.inr rfl) (hF.j.congr (fun i hi => if_off (by decide) hi) (fun i hi => if_off (by decide) hi) (fun i hi => if_off (by decide) hi)))
    · have ho' := ho
      obtain rfl := Option.some.inj ho
      have f3 : ac.tmps.getD 3 undef = .pointer (some ⟨b2, 0, none⟩) := slott hF 2 hLi 3 (by kernel_rfl)
      refine step_do ho' (wanted_free rfl) ?_
      exact wp_load_own 22 (.tmp 3) rfl b2 f3 (B32 (bdig zi)) _ 22 (hF.j.1.at b2 (B32 (bdig zi)) 22 (.head _)) Tryd.underlying22 rfl (B32_info _) (hK _ _ (.inr rfl) (hF.j.congr (fun i hi => if_off (by decide) hi) (fun i hi => if_off (by decide) hi) (fun i hi => if_off (by decide) hi)))
    · have ho' := ho
      obtain rfl := Option.some.inj ho
      have f10 : ac.tmps.getD 10 undef = .agg (B32 (bdig X)) := (factt hF hd 1 rfl rfl (by kernel_rfl)).1.trans (factt hF hd 1 rfl rfl (by kernel_rfl)).2
      have f11 : ac.tmps.getD 11 undef = .agg (B32 (bdig zi)) := (factt hF hd 2 rfl rfl (by kernel_rfl)).1.trans (factt hF hd 2 rfl rfl (by kernel_rfl)).2
      refine step_do ho' (wanted_free rfl) ?_
      unfold Oper.wp
      go_simp
      refine (cmul hX.out hzi.out Hx.out _ (TC.keep hT hF.j.1.2)).mono ?_
      rintro e w' ⟨rfl, hB⟩
      exact hK _ _ (.inr rfl) ((hF.j.congr (fun i hi => if_off (by decide) hi) (fun i hi => if_off (by decide) hi) (fun i hi => if_off (by decide) hi)).below hB)
    · have ho' := ho
      obtain rfl := Option.some.inj ho
      have f1 : ac.tmps.getD 1 undef = .pointer (some ⟨bP, 0, none⟩) := slott hF 4 hLi 1 (by kernel_rfl)
      refine step_do ho' (wanted_free rfl) ?_
      unfold Oper.wp
      go_simp
      exact hK _ _ (.inr rfl) (hF.j.congr (fun i hi => if_off (by decide) hi) (fun i hi => if_off (by decide) hi) (fun i hi => if_off (by decide) hi))
    · have ho' := ho
      obtain rfl := Option.some.inj ho
      have f13 : ac.tmps.getD 13 undef = .pointer (some ⟨bP, 32, none⟩) := (factt hF hd 4 rfl rfl (by kernel_rfl)).1.trans (factt hF hd 4 rfl rfl (by kernel_rfl)).2
      refine step_do ho' (wanted_free rfl) ?_
      exact wp_load_prt 1 (by decide) (.tmp 13) rfl bP f13 (hF.j.1.at bP (QA ⟨X, Y, Z⟩) 68 (.tail _ (.tail _ (.head _)))) (hK _ _ (.inr rfl) (hF.j.congr (fun i hi => if_off (by decide) hi) (fun i hi => if_off (by decide) hi) (fun i hi => if_off (by decide) hi)))
    · have ho' := ho
      obtain rfl := Option.some.inj ho
      have f3 : ac.tmps.getD 3 undef = .pointer (some ⟨b2, 0, none⟩) := slott hF 6 hLi 3 (by kernel_rfl)
      refine step_do ho' (wanted_free rfl) ?_
      exact wp_load_own 22 (.tmp 3) rfl b2 f3 (B32 (bdig zi)) _ 22 (hF.j.1.at b2 (B32 (bdig zi)) 22 (.head _)) Tryd.underlying22 rfl (B32_info _) (hK _ _ (.inr rfl) (hF.j.congr (fun i hi => if_off (by decide) hi) (fun i hi => if_off (by decide) hi) (fun i hi => if_off (by decide) hi)))
    · have ho' := ho
      obtain rfl := Option.some.inj ho
      have f14 : ac.tmps.getD 14 undef = .agg (B32 (bdig Y)) := (factt hF hd 5 rfl rfl (by kernel_rfl)).1.trans (factt hF hd 5 rfl rfl (by kernel_rfl)).2
      have f15 : ac.tmps.getD 15 undef = .agg (B32 (bdig zi)) := (factt hF hd 6 rfl rfl (by kernel_rfl)).1.trans (factt hF hd 6 rfl rfl (by kernel_rfl)).2
      refine step_do ho' (wanted_free rfl) ?_
      unfold Oper.wp
      go_simp
      refine (cmul hY.out hzi.out Hy.out _ (TC.keep hT hF.j.1.2)).mono ?_
      rintro e w' ⟨rfl, hB⟩
      exact hK _ _ (.inr rfl) ((hF.j.congr (fun i hi => if_off (by decide) hi) (fun i hi => if_off (by decide) hi) (fun i hi => if_off (by decide) hi)).below hB)
    · have ho' := ho
      obtain rfl := Option.some.inj ho
      refine step_do ho' (wanted_free rfl) ?_
      have hs := notyett hF 8 hLi 10 rfl (by kernel_rfl)
      unfold Oper.wp
      go_simp
      exact hK _ _ (.inr ⟨_, rfl⟩) (hF.j.alloc 0 (fun i _ hne => if_oth (k := 0) rfl hne) (fun i hi => if_off (by decide) hi) (fun i _ hne => if_oth (k := 0) rfl hne) rfl hs)
    · have ho' := ho
      obtain rfl := Option.some.inj ho
      refine step_do ho' (wanted_free rfl) ?_
      have hs := notyett hF 9 hLi 11 rfl (by kernel_rfl)
      unfold Oper.wp
      go_simp
      exact hK _ _ (.inr ⟨_, rfl⟩) (hF.j.alloc 1 (fun i _ hne => if_oth (k := 1) rfl hne) (fun i hi => if_off (by decide) hi) (fun i _ hne => if_oth (k := 1) rfl hne) rfl hs)
    · have ho' := ho
      obtain rfl := Option.some.inj ho
      have f12 : ac.tmps.getD 12 undef = .agg (B32 (bdig x)) := (factt hF hd 3 rfl rfl (by kernel_rfl)).1.trans (factt hF hd 3 rfl rfl (by kernel_rfl)).2
      refine step_do ho' (wanted_free rfl) ?_
      obtain ⟨fg, gq, hg⟩ := factt hF hd 8 rfl rfl (by kernel_rfl)
      have hm := dep hd 8 (by kernel_rfl)
      have hj := hF.j
      rw [hg] at fg
      have hj2 := hj.at (k := 0) (by decide) hm hg hLi
      refine wp_store_own 22 (.tmp 4) (.tmp 12) rfl gq (B32 (bdig x)) fg f12 hj2.2.2 (B32_sizes _ _) (B32_info _) (B32_one _) rfl ?_
      exact hK undef _ (.inl rfl) (hj.storeA (k := 0) Af4_0.out (by decide) hm hg hLi (B32_sizes _ _) (fun i hi => if_off (by decide) hi) (fun i _ hne => if_oth (k := 0) rfl hne) (fun i hi => if_off (by decide) hi) rfl)
    · have ho' := ho
      obtain rfl := Option.some.inj ho
      have f16 : ac.tmps.getD 16 undef = .agg (B32 (bdig y)) := (factt hF hd 7 rfl rfl (by kernel_rfl)).1.trans (factt hF hd 7 rfl rfl (by kernel_rfl)).2
      refine step_do ho' (wanted_free rfl) ?_
      obtain ⟨fg, gq, hg⟩ := factt hF hd 9 rfl rfl (by kernel_rfl)
      have hm := dep hd 9 (by kernel_rfl)
      have hj := hF.j
      rw [hg] at fg
      have hj2 := hj.at (k := 1) (by decide) hm hg hLi
      refine wp_store_own 22 (.tmp 5) (.tmp 16) rfl gq (B32 (bdig y)) fg f16 hj2.2.2 (B32_sizes _ _) (B32_info _) (B32_one _) rfl ?_
      exact hK undef _ (.inl rfl) (hj.storeA (k := 1) Af4_1.out (by decide) hm hg hLi (B32_sizes _ _) (fun i hi => if_off (by decide) hi) (fun i _ hne => if_oth (k := 1) rfl hne) (fun i hi => if_off (by decide) hi) rfl)
    · cases ho
  intro L vs V5 hL hJ hf
  obtain ⟨g6, hgg6⟩ := hf 8 _ _ rfl rfl
  obtain ⟨le0, apg6, owng6⟩ := hJ.gotA (k := 0) Af4_0.out (by decide) (hL 8 (by decide)) hgg6 (hL 10 (by decide))
  have le_g6 := show Hid _ from le0
  clear le0
  obtain ⟨g7, hgg7⟩ := hf 9 _ _ rfl rfl
  obtain ⟨le0, apg7, owng7⟩ := hJ.gotA (k := 1) Af4_1.out (by decide) (hL 9 (by decide)) hgg7 (hL 11 (by decide))
  have le_g7 := show Hid _ from le0
  clear le0
  have ne_g6_g7 : Hid (g6 ≠ g7) := hJ.apart (i := 0) (j := 1) (by decide) (by decide) (by decide) (hL 8 (by decide)) (hL 9 (by decide)) hgg6 hgg7
  have ne_bR_g6 : Hid (bR ≠ g6) := apg6 (bR, B32 fun _ => 0, 22) (.tail _ (.head _))
  have ne_bR_g7 : Hid (bR ≠ g7) := apg7 (bR, B32 fun _ => 0, 22) (.tail _ (.head _))
  have hK : Kp [(g7, B32 (bdig y), 22), (g6, B32 (bdig x), 22), (b2, B32 (bdig zi), 22), (bR, B32 fun _ => 0, 22), (bP, QA ⟨X, Y, Z⟩, 68)] w V5 := ((hJ.1.cons owng6).cons owng7)
  have e0 : vs 0 = _ := hf 0 _ _ rfl rfl
  have e1 : vs 1 = _ := hf 1 _ _ rfl rfl
  have e2 : vs 2 = _ := hf 2 _ _ rfl rfl
  have e3 : vs 3 = _ := hf 3 _ _ rfl rfl
  have e4 : vs 4 = _ := hf 4 _ _ rfl rfl
  have e5 : vs 5 = _ := hf 5 _ _ rfl rfl
  have e6 : vs 6 = _ := hf 6 _ _ rfl rfl
  have e7 : vs 7 = _ := hf 7 _ _ rfl rfl
  simp only [putAll, Nat.zero_add, Nat.reduceAdd, e0, e1, e2, e3, e4, e5, e6, e7, hgg6, hgg7, Act.put, List.setIfInBounds_toArray, List.set_cons_succ, List.set_cons_zero]
  clear hJ hf hL e0 e1 e2 e3 e4 e5 e6 e7 hgg6 hgg7 apg6 apg7 owng6 owng7
  go_upto_region 3 with fail
  have hK : Kp [(g7, B32 (bdig y), 22), (g6, B32 (bdig x), 22), (bR, B32 fun _ => 0, 22)] w V5 := (((hK.none.cons (hK.at bR (B32 fun _ => 0) 22 (.tail _ (.tail _ (.tail _ (.head _)))))).cons (hK.at g6 (B32 (bdig x)) 22 (.tail _ (.head _)))).cons (hK.at g7 (B32 (bdig y)) 22 (.head _)))
  have cX := (hK.at g6 (B32 (bdig x)) 22 (.tail _ (.head _))).cell (B32_at (bdig x) 0 (by decide))
  have hand := and1_u8 x
  generalize bdig x 0 = x0 at *
  have hb2 : x % 2 = 0 ∨ x % 2 = 1 := by omega
  rcases hb2 with hb | hb
  · have He : Hid (y + HH * (x % 2) = y) := by show _ = _; rw [hb, Nat.mul_zero, Nat.add_zero]
    rw [hb] at hand
    clear hb
    go_upto_region 5 with fail
    go_wp2_with (first
      | refine wpList_load_own (by rfl) 22 (.tmp 5) (by rfl) g7 (by rfl) (B32 (bdig y)) _ (hK.at g7 (B32 (bdig y)) 22 (.head _)) Tryd.underlying22 (by rfl) (B32_info _) ?_
      | refine wpList_store_own (by rfl) 22 (.tmp 2) (.tmp 25) (by rfl) bR 0 (B32 (bdig y)) (by rfl) (by rfl) (hK.at bR (B32 fun _ => 0) 22 (.tail _ (.tail _ (.head _)))) (B32_le _ _) (B32_info _) (B32_one _) (by rfl) ?_)
    exact bodyPost_ret (results_own Tryd.results38 _ _ bR (B32 (bdig y)) _ (by rfl) (own_setCells (hK.at bR (B32 fun _ => 0) 22 (.tail _ (.tail _ (.head _)))) (B32_sizes _ _)) Tryd.underlying22 rfl (B32_info _)) rfl ⟨by rw [He.out], Below.setCells _ _ _ _ le_bR.out hK.2⟩
  · have He : Hid (y + HH * (x % 2) = y + HH) := by show _ = _; rw [hb, Nat.mul_one]
    rw [hb] at hand
    clear hb
    go_upto_region 4 with fail
    clear cX hand
    have cB := (hK.at g7 (B32 (bdig y)) 22 (.head _)).cell (B32_at (bdig y) 31 (by decide))
    have fB := (hK.at g7 (B32 (bdig y)) 22 (.head _)).frozen 31
    have hor := or_top hyH.out
    obtain ⟨u, Hu⟩ : ∃ u, Hid (bdig y 31 + 128 = u) := ⟨_, rfl⟩
    rw [Hu.out] at hor
    have hK := Kp.setCell (i := 31) (v := .int .u8 (u : Int)) hK (by simp only [List.forall_mem_cons, List.not_mem_nil, false_implies, implies_true, and_true]; exact ⟨ne_g6_g7.out, ne_bR_g7.out⟩) le_g7.out
    rw [B32_set _ 31 _ (by decide), ← Hu.out, B32_top hyH.out, Hu.out] at hK
    generalize bdig y 31 = d31 at *
    go_upto_region 5 with fail
    generalize V5.setCell ⟨g7, 31, none⟩ (.int .u8 (u : Int)) = VV at *
    go_wp2_with (first
      | refine wpList_load_own (by rfl) 22 (.tmp 5) (by rfl) g7 (by rfl) (B32 (bdig (y + HH))) _ (hK.at g7 (B32 (bdig (y + HH))) 22 (.head _)) Tryd.underlying22 (by rfl) (B32_info _) ?_
      | refine wpList_store_own (by rfl) 22 (.tmp 2) (.tmp 25) (by rfl) bR 0 (B32 (bdig (y + HH))) (by rfl) (by rfl) (hK.at bR (B32 fun _ => 0) 22 (.tail _ (.tail _ (.head _)))) (B32_le _ _) (B32_info _) (B32_one _) (by rfl) ?_)
    exact bodyPost_ret (results_own Tryd.results38 _ _ bR (B32 (bdig (y + HH))) _ (by rfl) (own_setCells (hK.at bR (B32 fun _ => 0) 22 (.tail _ (.tail _ (.head _)))) (B32_sizes _ _)) Tryd.underlying22 rfl (B32_info _)) rfl ⟨by rw [He.out], Below.setCells _ _ _ _ le_bR.out hK.2⟩
theorem write_at {P : Pt E5} {r : N3} {c : Nat} (hr : Ok3 P r) (hc : enc P = c) (w : World) (hT : TC w) : Calls Tryd.prog 38 #[.agg (QA r)] w fun e w' => e = .returned (.agg (B32 (bdig c))) ∧ Below w.heap.size w w' := by
  subst hc
  rw [← hr.enc]
  exact write_nat hr.lX hr.lY hr.lZ w hT
end Go.Proofs.YtfkcphbbabaefaaDoor
