/- Of the texts G3: what the card of this claim reaches. -/
import Derived.Test.YtfkcphbbabaefaaDoorXB13
namespace Go.Proofs.YtfkcphbbabaefaaDoor
open Go Go.RowKit
def factDb1 (bP X1 Y1 Z1 xx yy zz : Nat) : Nat → Value → Prop
  | 0, vq => vq = .pointer (some ⟨bP, 0, none⟩)
  | 1, vq => vq = .agg (B32 (bdig X1))
  | 2, vq => vq = .pointer (some ⟨bP, 0, none⟩)
  | 3, vq => vq = .agg (B32 (bdig X1))
  | 4, vq => vq = .agg (B32 (bdig xx))
  | 5, vq => vq = .pointer (some ⟨bP, 32, none⟩)
  | 6, vq => vq = .agg (B32 (bdig Y1))
  | 7, vq => vq = .pointer (some ⟨bP, 32, none⟩)
  | 8, vq => vq = .agg (B32 (bdig Y1))
  | 9, vq => vq = .agg (B32 (bdig yy))
  | 10, vq => vq = .pointer (some ⟨bP, 64, none⟩)
  | 11, vq => vq = .agg (B32 (bdig Z1))
  | 12, vq => vq = .pointer (some ⟨bP, 64, none⟩)
  | 13, vq => vq = .agg (B32 (bdig Z1))
  | 14, vq => vq = .agg (B32 (bdig zz))
  | 15, vq => ∃ g, vq = .pointer (some ⟨g, 0, none⟩)
  | 16, vq => ∃ g, vq = .pointer (some ⟨g, 0, none⟩)
  | 17, vq => ∃ g, vq = .pointer (some ⟨g, 0, none⟩)
  | _, _ => True
def factDb4 (zz z2 ov un : Nat) : Nat → Value → Prop
  | 0, vq => vq = .agg (B32 (bdig zz))
  | 1, vq => vq = .agg (B32 (bdig zz))
  | 2, vq => vq = .agg (B32 (bdig z2))
  | 3, vq => vq = .agg (B32 (bdig ov))
  | 4, vq => vq = .agg (B32 (bdig un))
  | 5, vq => ∃ g, vq = .pointer (some ⟨g, 0, none⟩)
  | _, _ => True
def valDb5 (xx yy xy ov un x2 X yx Y Z : Nat) : Nat → Value
  | 0 => .agg (B32 (bdig xy))
  | 1 => .agg (B32 (bdig xy))
  | 2 => .agg (B32 (bdig x2))
  | 3 => .agg (B32 (bdig un))
  | 4 => .agg (B32 (bdig X))
  | 5 => .agg (B32 (bdig yy))
  | 6 => .agg (B32 (bdig xx))
  | 7 => .agg (B32 (bdig yx))
  | 8 => .agg (B32 (bdig ov))
  | 9 => .agg (B32 (bdig Y))
  | 10 => .agg (B32 (bdig ov))
  | 11 => .agg (B32 (bdig un))
  | 12 => .agg (B32 (bdig Z))
  | 13 => .agg (QA ⟨X, Y, Z⟩)
  | _ => undef
set_option maxRecDepth 100000 in
set_option maxHeartbeats 6000000 in
theorem double_nat {X1 Y1 Z1 : Nat} (hX1 : Hid (X1 < R256)) (hY1 : Hid (Y1 < R256)) (hZ1 : Hid (Z1 < R256)) (w : World) (hT : TC w) :
    Calls Tryd.prog 94 #[.agg (QA ⟨X1, Y1, Z1⟩)] w fun x w' => x = .returned (.agg (QA (dbl3 ⟨X1, Y1, Z1⟩))) ∧ Below w.heap.size w w' := by
  have hz := (zero_of_info zeroB32).1
  have hzP := (zero_of_info zeroQA).1
  obtain ⟨xx, Hxx⟩ : ∃ z, Hid (X1 * X1 % pp = z) := ⟨_, rfl⟩
  have hxx : Hid (xx < R256) := by show _ < _; rw [← Hxx.out]; exact lt_of_mod
  obtain ⟨yy, Hyy⟩ : ∃ z, Hid (Y1 * Y1 % pp = z) := ⟨_, rfl⟩
  have hyy : Hid (yy < R256) := by show _ < _; rw [← Hyy.out]; exact lt_of_mod
  obtain ⟨zz, Hzz⟩ : ∃ z, Hid (Z1 * Z1 % pp = z) := ⟨_, rfl⟩
  have hzz : Hid (zz < R256) := by show _ < _; rw [← Hzz.out]; exact lt_of_mod
  obtain ⟨xy, Hxy⟩ : ∃ z, Hid (X1 * Y1 % pp = z) := ⟨_, rfl⟩
  have hxy : Hid (xy < R256) := by show _ < _; rw [← Hxy.out]; exact lt_of_mod
  obtain ⟨ov, Hov⟩ : ∃ z, Hid (subp yy xx = z) := ⟨_, rfl⟩
  have hov : Hid (ov < R256) := by show _ < _; rw [← Hov.out]; exact subp_R _ _
  obtain ⟨z2, Hz2⟩ : ∃ z, Hid ((zz + zz) % pp = z) := ⟨_, rfl⟩
  have hz2 : Hid (z2 < R256) := by show _ < _; rw [← Hz2.out]; exact lt_of_mod
  obtain ⟨un, Hun⟩ : ∃ z, Hid (subp z2 ov = z) := ⟨_, rfl⟩
  have hun : Hid (un < R256) := by show _ < _; rw [← Hun.out]; exact subp_R _ _
  obtain ⟨x2, Hx2⟩ : ∃ z, Hid ((xy + xy) % pp = z) := ⟨_, rfl⟩
  have hx2 : Hid (x2 < R256) := by show _ < _; rw [← Hx2.out]; exact lt_of_mod
  obtain ⟨X, HX⟩ : ∃ z, Hid (x2 * un % pp = z) := ⟨_, rfl⟩
  have hX : Hid (X < R256) := by show _ < _; rw [← HX.out]; exact lt_of_mod
  obtain ⟨yx, Hyx⟩ : ∃ z, Hid ((yy + xx) % pp = z) := ⟨_, rfl⟩
  have hyx : Hid (yx < R256) := by show _ < _; rw [← Hyx.out]; exact lt_of_mod
  obtain ⟨Y, HY⟩ : ∃ z, Hid (yx * ov % pp = z) := ⟨_, rfl⟩
  have hY : Hid (Y < R256) := by show _ < _; rw [← HY.out]; exact lt_of_mod
  obtain ⟨Z, HZ⟩ : ∃ z, Hid (ov * un % pp = z) := ⟨_, rfl⟩
  have hZ : Hid (Z < R256) := by show _ < _; rw [← HZ.out]; exact lt_of_mod
  have He3 : Hid (dbl3 ⟨X1, Y1, Z1⟩ = ⟨X, Y, Z⟩) := by
    show _ = _
    rw [← HZ.out, ← HY.out, ← Hyx.out, ← HX.out, ← Hx2.out, ← Hun.out, ← Hz2.out, ← Hov.out, ← Hxy.out, ← Hzz.out, ← Hyy.out, ← Hxx.out]
    rfl
  rw [He3.out]
  go_enter Tryd.func94, Tryd.ntmps94
  go_upto_region 1 with fail
  have hK := ((Kp.nil w).alloc (QA ⟨X1, Y1, Z1⟩) 68).alloc (QA ⟨0, 0, 0⟩) 68
  rw [World.size_alloc] at hK
  generalize (w.alloc (.cells (QA ⟨X1, Y1, Z1⟩) 68)).alloc (.cells (QA ⟨0, 0, 0⟩) 68) = W at *
  obtain ⟨bP, HbP⟩ : ∃ b, Hid (w.heap.size = b) := ⟨_, rfl⟩
  obtain ⟨bR, HbR⟩ : ∃ b, Hid (bP + 1 = b) := ⟨_, rfl⟩
  have le_bP : Hid (w.heap.size ≤ bP) := by show _ ≤ _; have := HbP.out; omega
  have le_bR : Hid (w.heap.size ≤ bR) := by show _ ≤ _; have := HbP.out; have := HbR.out; omega
  have ne_bP_bR : Hid (bP ≠ bR) := by show _ ≠ _; have := HbR.out; omega
  rw [HbP.out, HbR.out] at hK ⊢
  obtain ⟨Af1, Af1_0, Af1_1, Af1_2⟩ : ∃ qf : Nat → Array Value, Hid (qf 0 = B32 (bdig xx)) ∧ Hid (qf 1 = B32 (bdig yy)) ∧ Hid (qf 2 = B32 (bdig zz)) := ⟨fun qi => ([B32 (bdig xx), B32 (bdig yy), B32 (bdig zz)] : List (Array Value)).getD qi #[], by show _ = _; simp, by show _ = _; simp, by show _ = _; simp⟩
  refine wp_region_told 51 (by kernel_rfl) (by kernel_rfl) (by rfl) (factDb1 bP X1 Y1 Z1 xx yy zz) (fun L vs => MkN 3 [(bR, QA ⟨0, 0, 0⟩, 68), (bP, QA ⟨X1, Y1, Z1⟩, 68)] w (fun _ => B32 fun _ => 0) (Af1) (fun _ => 22) (fun i => L (15 + i)) (fun i => L (18 + i)) (fun i => vs (15 + i))) (fun _ => MkN.drew hK (fun _ _ => rfl)) ?_ ?_
  · intro L vs ac wc i o hF hLi ho hd K hK
    rcases i with _ | _ | _ | _ | _ | _ | _ | _ | _ | _ | _ | _ | _ | _ | _ | _ | _ | _ | _ | _ | _ | i
    · have ho' := ho
      obtain rfl := Option.some.inj ho
      have f1 : ac.tmps.getD 1 undef = .pointer (some ⟨bP, 0, none⟩) := slott hF 0 hLi 1 (by kernel_rfl)
      refine step_do ho' (wanted_free rfl) ?_
      unfold Oper.wp
      go_simp
      exact hK _ _ (.inr rfl) (hF.j.congr (fun i hi => if_off (by decide) hi) (fun i hi => if_off (by decide) hi) (fun i hi => if_off (by decide) hi))
    · have ho' := ho
      obtain rfl := Option.some.inj ho
      have f9 : ac.tmps.getD 9 undef = .pointer (some ⟨bP, 0, none⟩) := (factt hF hd 0 rfl rfl (by kernel_rfl)).1.trans (factt hF hd 0 rfl rfl (by kernel_rfl)).2
      refine step_do ho' (wanted_free rfl) ?_
      exact wp_load_prt 0 (by decide) (.tmp 9) rfl bP f9 (hF.j.1.at bP (QA ⟨X1, Y1, Z1⟩) 68 (.tail _ (.head _))) (hK _ _ (.inr rfl) (hF.j.congr (fun i hi => if_off (by decide) hi) (fun i hi => if_off (by decide) hi) (fun i hi => if_off (by decide) hi)))
    · have ho' := ho
      obtain rfl := Option.some.inj ho
      have f1 : ac.tmps.getD 1 undef = .pointer (some ⟨bP, 0, none⟩) := slott hF 2 hLi 1 (by kernel_rfl)
      refine step_do ho' (wanted_free rfl) ?_
      unfold Oper.wp
      go_simp
      exact hK _ _ (.inr rfl) (hF.j.congr (fun i hi => if_off (by decide) hi) (fun i hi => if_off (by decide) hi) (fun i hi => if_off (by decide) hi))
    · have ho' := ho
      obtain rfl := Option.some.inj ho
      have f11 : ac.tmps.getD 11 undef = .pointer (some ⟨bP, 0, none⟩) := (factt hF hd 2 rfl rfl (by kernel_rfl)).1.trans (factt hF hd 2 rfl rfl (by kernel_rfl)).2
      refine step_do ho' (wanted_free rfl) ?_
      exact wp_load_prt 0 (by decide) (.tmp 11) rfl bP f11 (hF.j.1.at bP (QA ⟨X1, Y1, Z1⟩) 68 (.tail _ (.head _))) (hK _ _ (.inr rfl) (hF.j.congr (fun i hi => if_off (by decide) hi) (fun i hi => if_off (by decide) hi) (fun i hi => if_off (by decide) hi)))
    · have ho' := ho
      obtain rfl := Option.some.inj ho
      have f10 : ac.tmps.getD 10 undef = .agg (B32 (bdig X1)) := (factt hF hd 1 rfl rfl (by kernel_rfl)).1.trans (factt hF hd 1 rfl rfl (by kernel_rfl)).2
      have f12 : ac.tmps.getD 12 undef = .agg (B32 (bdig X1)) := (factt hF hd 3 rfl rfl (by kernel_rfl)).1.trans (factt hF hd 3 rfl rfl (by kernel_rfl)).2
      refine step_do ho' (wanted_free rfl) ?_
      unfold Oper.wp
      go_simp
      refine (cmul hX1.out hX1.out Hxx.out _ (TC.keep hT hF.j.1.2)).mono ?_
      rintro e w' ⟨rfl, hB⟩
      exact hK _ _ (.inr rfl) ((hF.j.congr (fun i hi => if_off (by decide) hi) (fun i hi => if_off (by decide) hi) (fun i hi => if_off (by decide) hi)).below hB)
    · have ho' := ho
      obtain rfl := Option.some.inj ho
      have f1 : ac.tmps.getD 1 undef = .pointer (some ⟨bP, 0, none⟩) := slott hF 5 hLi 1 (by kernel_rfl)
      refine step_do ho' (wanted_free rfl) ?_
      unfold Oper.wp
      go_simp
      exact hK _ _ (.inr rfl) (hF.j.congr (fun i hi => if_off (by decide) hi) (fun i hi => if_off (by decide) hi) (fun i hi => if_off (by decide) hi))
    · have ho' := ho
      obtain rfl := Option.some.inj ho
      have f14 : ac.tmps.getD 14 undef = .pointer (some ⟨bP, 32, none⟩) := (factt hF hd 5 rfl rfl (by kernel_rfl)).1.trans (factt hF hd 5 rfl rfl (by kernel_rfl)).2
      refine step_do ho' (wanted_free rfl) ?_
      exact wp_load_prt 1 (by decide) (.tmp 14) rfl bP f14 (hF.j.1.at bP (QA ⟨X1, Y1, Z1⟩) 68 (.tail _ (.head _))) (hK _ _ (.inr rfl) (hF.j.congr (fun i hi => if_off (by decide) hi) (fun i hi => if_off (by decide) hi) (fun i hi => if_off (by decide) hi)))
    · have ho' := ho
      obtain rfl := Option.some.inj ho
      have f1 : ac.tmps.getD 1 undef = .pointer (some ⟨bP, 0, none⟩) := slott hF 7 hLi 1 (by kernel_rfl)
      refine step_do ho' (wanted_free rfl) ?_
      unfold Oper.wp
      go_simp
      exact hK _ _ (.inr rfl) (hF.j.congr (fun i hi => if_off (by decide) hi) (fun i hi => if_off (by decide) hi) (fun i hi => if_off (by decide) hi))
    · have ho' := ho
      obtain rfl := Option.some.inj ho
      have f16 : ac.tmps.getD 16 undef = .pointer (some ⟨bP, 32, none⟩) := (factt hF hd 7 rfl rfl (by kernel_rfl)).1.trans (factt hF hd 7 rfl rfl (by kernel_rfl)).2
      refine step_do ho' (wanted_free rfl) ?_
      exact wp_load_prt 1 (by decide) (.tmp 16) rfl bP f16 (hF.j.1.at bP (QA ⟨X1, Y1, Z1⟩) 68 (.tail _ (.head _))) (hK _ _ (.inr rfl) (hF.j.congr (fun i hi => if_off (by decide) hi) (fun i hi => if_off (by decide) hi) (fun i hi => if_off (by decide) hi)))
    · have ho' := ho
      obtain rfl := Option.some.inj ho
      have f15 : ac.tmps.getD 15 undef = .agg (B32 (bdig Y1)) := (factt hF hd 6 rfl rfl (by kernel_rfl)).1.trans (factt hF hd 6 rfl rfl (by kernel_rfl)).2
      have f17 : ac.tmps.getD 17 undef = .agg (B32 (bdig Y1)) := (factt hF hd 8 rfl rfl (by kernel_rfl)).1.trans (factt hF hd 8 rfl rfl (by kernel_rfl)).2
      refine step_do ho' (wanted_free rfl) ?_
      unfold Oper.wp
      go_simp
      refine (cmul hY1.out hY1.out Hyy.out _ (TC.keep hT hF.j.1.2)).mono ?_
      rintro e w' ⟨rfl, hB⟩
      exact hK _ _ (.inr rfl) ((hF.j.congr (fun i hi => if_off (by decide) hi) (fun i hi => if_off (by decide) hi) (fun i hi => if_off (by decide) hi)).below hB)
    · have ho' := ho
      obtain rfl := Option.some.inj ho
      have f1 : ac.tmps.getD 1 undef = .pointer (some ⟨bP, 0, none⟩) := slott hF 10 hLi 1 (by kernel_rfl)
      refine step_do ho' (wanted_free rfl) ?_
      unfold Oper.wp
      go_simp
      exact hK _ _ (.inr rfl) (hF.j.congr (fun i hi => if_off (by decide) hi) (fun i hi => if_off (by decide) hi) (fun i hi => if_off (by decide) hi))
    · have ho' := ho
      obtain rfl := Option.some.inj ho
      have f19 : ac.tmps.getD 19 undef = .pointer (some ⟨bP, 64, none⟩) := (factt hF hd 10 rfl rfl (by kernel_rfl)).1.trans (factt hF hd 10 rfl rfl (by kernel_rfl)).2
      refine step_do ho' (wanted_free rfl) ?_
      exact wp_load_prt 2 (by decide) (.tmp 19) rfl bP f19 (hF.j.1.at bP (QA ⟨X1, Y1, Z1⟩) 68 (.tail _ (.head _))) (hK _ _ (.inr rfl) (hF.j.congr (fun i hi => if_off (by decide) hi) (fun i hi => if_off (by decide) hi) (fun i hi => if_off (by decide) hi)))
    · have ho' := ho
      obtain rfl := Option.some.inj ho
      have f1 : ac.tmps.getD 1 undef = .pointer (some ⟨bP, 0, none⟩) := slott hF 12 hLi 1 (by kernel_rfl)
      refine step_do ho' (wanted_free rfl) ?_
      unfold Oper.wp
      go_simp
      exact hK _ _ (.inr rfl) (hF.j.congr (fun i hi => if_off (by decide) hi) (fun i hi => if_off (by decide) hi) (fun i hi => if_off (by decide) hi))
    · have ho' := ho
      obtain rfl := Option.some.inj ho
      have f21 : ac.tmps.getD 21 undef = .pointer (some ⟨bP, 64, none⟩) := (factt hF hd 12 rfl rfl (by kernel_rfl)).1.trans (factt hF hd 12 rfl rfl (by kernel_rfl)).2
      refine step_do ho' (wanted_free rfl) ?_
      exact wp_load_prt 2 (by decide) (.tmp 21) rfl bP f21 (hF.j.1.at bP (QA ⟨X1, Y1, Z1⟩) 68 (.tail _ (.head _))) (hK _ _ (.inr rfl) (hF.j.congr (fun i hi => if_off (by decide) hi) (fun i hi => if_off (by decide) hi) (fun i hi => if_off (by decide) hi)))
    · have ho' := ho
      obtain rfl := Option.some.inj ho
      have f20 : ac.tmps.getD 20 undef = .agg (B32 (bdig Z1)) := (factt hF hd 11 rfl rfl (by kernel_rfl)).1.trans (factt hF hd 11 rfl rfl (by kernel_rfl)).2
      have f22 : ac.tmps.getD 22 undef = .agg (B32 (bdig Z1)) := (factt hF hd 13 rfl rfl (by kernel_rfl)).1.trans (factt hF hd 13 rfl rfl (by kernel_rfl)).2
      refine step_do ho' (wanted_free rfl) ?_
      unfold Oper.wp
      go_simp
      refine (cmul hZ1.out hZ1.out Hzz.out _ (TC.keep hT hF.j.1.2)).mono ?_
      rintro e w' ⟨rfl, hB⟩
      exact hK _ _ (.inr rfl) ((hF.j.congr (fun i hi => if_off (by decide) hi) (fun i hi => if_off (by decide) hi) (fun i hi => if_off (by decide) hi)).below hB)
    · have ho' := ho
      obtain rfl := Option.some.inj ho
      refine step_do ho' (wanted_free rfl) ?_
      have hs := notyett hF 15 hLi 18 rfl (by kernel_rfl)
      unfold Oper.wp
      go_simp
      exact hK _ _ (.inr ⟨_, rfl⟩) (hF.j.alloc 0 (fun i _ hne => if_oth (k := 0) rfl hne) (fun i hi => if_off (by decide) hi) (fun i _ hne => if_oth (k := 0) rfl hne) rfl hs)
    · have ho' := ho
      obtain rfl := Option.some.inj ho
      refine step_do ho' (wanted_free rfl) ?_
      have hs := notyett hF 16 hLi 19 rfl (by kernel_rfl)
      unfold Oper.wp
      go_simp
      exact hK _ _ (.inr ⟨_, rfl⟩) (hF.j.alloc 1 (fun i _ hne => if_oth (k := 1) rfl hne) (fun i hi => if_off (by decide) hi) (fun i _ hne => if_oth (k := 1) rfl hne) rfl hs)
    · have ho' := ho
      obtain rfl := Option.some.inj ho
      refine step_do ho' (wanted_free rfl) ?_
      have hs := notyett hF 17 hLi 20 rfl (by kernel_rfl)
      unfold Oper.wp
      go_simp
      exact hK _ _ (.inr ⟨_, rfl⟩) (hF.j.alloc 2 (fun i _ hne => if_oth (k := 2) rfl hne) (fun i hi => if_off (by decide) hi) (fun i _ hne => if_oth (k := 2) rfl hne) rfl hs)
    · have ho' := ho
      obtain rfl := Option.some.inj ho
      have f13 : ac.tmps.getD 13 undef = .agg (B32 (bdig xx)) := (factt hF hd 4 rfl rfl (by kernel_rfl)).1.trans (factt hF hd 4 rfl rfl (by kernel_rfl)).2
      refine step_do ho' (wanted_free rfl) ?_
      obtain ⟨fg, gq, hg⟩ := factt hF hd 15 rfl rfl (by kernel_rfl)
      have hm := dep hd 15 (by kernel_rfl)
      have hj := hF.j
      rw [hg] at fg
      have hj2 := hj.at (k := 0) (by decide) hm hg hLi
      refine wp_store_own 22 (.tmp 3) (.tmp 13) rfl gq (B32 (bdig xx)) fg f13 hj2.2.2 (B32_sizes _ _) (B32_info _) (B32_one _) rfl ?_
      exact hK undef _ (.inl rfl) (hj.storeA (k := 0) Af1_0.out (by decide) hm hg hLi (B32_sizes _ _) (fun i hi => if_off (by decide) hi) (fun i _ hne => if_oth (k := 0) rfl hne) (fun i hi => if_off (by decide) hi) rfl)
    · have ho' := ho
      obtain rfl := Option.some.inj ho
      have f18 : ac.tmps.getD 18 undef = .agg (B32 (bdig yy)) := (factt hF hd 9 rfl rfl (by kernel_rfl)).1.trans (factt hF hd 9 rfl rfl (by kernel_rfl)).2
      refine step_do ho' (wanted_free rfl) ?_
      obtain ⟨fg, gq, hg⟩ := factt hF hd 16 rfl rfl (by kernel_rfl)
      have hm := dep hd 16 (by kernel_rfl)
      have hj := hF.j
      rw [hg] at fg
      have hj2 := hj.at (k := 1) (by decide) hm hg hLi
      refine wp_store_own 22 (.tmp 4) (.tmp 18) rfl gq (B32 (bdig yy)) fg f18 hj2.2.2 (B32_sizes _ _) (B32_info _) (B32_one _) rfl ?_
      exact hK undef _ (.inl rfl) (hj.storeA (k := 1) Af1_1.out (by decide) hm hg hLi (B32_sizes _ _) (fun i hi => if_off (by decide) hi) (fun i _ hne => if_oth (k := 1) rfl hne) (fun i hi => if_off (by decide) hi) rfl)
    · have ho' := ho
      obtain rfl := Option.some.inj ho
      have f23 : ac.tmps.getD 23 undef = .agg (B32 (bdig zz)) := (factt hF hd 14 rfl rfl (by kernel_rfl)).1.trans (factt hF hd 14 rfl rfl (by kernel_rfl)).2
      refine step_do ho' (wanted_free rfl) ?_
      obtain ⟨fg, gq, hg⟩ := factt hF hd 17 rfl rfl (by kernel_rfl)
      have hm := dep hd 17 (by kernel_rfl)
      have hj := hF.j
      rw [hg] at fg
      have hj2 := hj.at (k := 2) (by decide) hm hg hLi
      refine wp_store_own 22 (.tmp 5) (.tmp 23) rfl gq (B32 (bdig zz)) fg f23 hj2.2.2 (B32_sizes _ _) (B32_info _) (B32_one _) rfl ?_
      exact hK undef _ (.inl rfl) (hj.storeA (k := 2) Af1_2.out (by decide) hm hg hLi (B32_sizes _ _) (fun i hi => if_off (by decide) hi) (fun i _ hne => if_oth (k := 2) rfl hne) (fun i hi => if_off (by decide) hi) rfl)
    · cases ho
  intro L vs V2 hL hJ hf
  obtain ⟨g3, hgg3⟩ := hf 15 _ _ rfl rfl
  obtain ⟨le0, apg3, owng3⟩ := hJ.gotA (k := 0) Af1_0.out (by decide) (hL 15 (by decide)) hgg3 (hL 18 (by decide))
  have le_g3 := show Hid _ from le0
  clear le0
  obtain ⟨g4, hgg4⟩ := hf 16 _ _ rfl rfl
  obtain ⟨le0, apg4, owng4⟩ := hJ.gotA (k := 1) Af1_1.out (by decide) (hL 16 (by decide)) hgg4 (hL 19 (by decide))
  have le_g4 := show Hid _ from le0
  clear le0
  obtain ⟨g5, hgg5⟩ := hf 17 _ _ rfl rfl
  obtain ⟨le0, apg5, owng5⟩ := hJ.gotA (k := 2) Af1_2.out (by decide) (hL 17 (by decide)) hgg5 (hL 20 (by decide))
  have le_g5 := show Hid _ from le0
  clear le0
  have ne_g3_g4 : Hid (g3 ≠ g4) := hJ.apart (i := 0) (j := 1) (by decide) (by decide) (by decide) (hL 15 (by decide)) (hL 16 (by decide)) hgg3 hgg4
  have ne_g3_g5 : Hid (g3 ≠ g5) := hJ.apart (i := 0) (j := 2) (by decide) (by decide) (by decide) (hL 15 (by decide)) (hL 17 (by decide)) hgg3 hgg5
  have ne_g4_g5 : Hid (g4 ≠ g5) := hJ.apart (i := 1) (j := 2) (by decide) (by decide) (by decide) (hL 16 (by decide)) (hL 17 (by decide)) hgg4 hgg5
  have ne_bR_g3 : Hid (bR ≠ g3) := apg3 (bR, QA ⟨0, 0, 0⟩, 68) (.head _)
  have ne_bR_g4 : Hid (bR ≠ g4) := apg4 (bR, QA ⟨0, 0, 0⟩, 68) (.head _)
  have ne_bR_g5 : Hid (bR ≠ g5) := apg5 (bR, QA ⟨0, 0, 0⟩, 68) (.head _)
  have hK : Kp [(g5, B32 (bdig zz), 22), (g4, B32 (bdig yy), 22), (g3, B32 (bdig xx), 22), (bR, QA ⟨0, 0, 0⟩, 68), (bP, QA ⟨X1, Y1, Z1⟩, 68)] w V2 := (((hJ.1.cons owng3).cons owng4).cons owng5)
  have e0 : vs 0 = _ := hf 0 _ _ rfl rfl
  have e1 : vs 1 = _ := hf 1 _ _ rfl rfl
  have e2 : vs 2 = _ := hf 2 _ _ rfl rfl
  have e3 : vs 3 = _ := hf 3 _ _ rfl rfl
  have e4 : vs 4 = _ := hf 4 _ _ rfl rfl
  have e5 : vs 5 = _ := hf 5 _ _ rfl rfl
  have e6 : vs 6 = _ := hf 6 _ _ rfl rfl
  have e7 : vs 7 = _ := hf 7 _ _ rfl rfl
  have e8 : vs 8 = _ := hf 8 _ _ rfl rfl
  have e9 : vs 9 = _ := hf 9 _ _ rfl rfl
  have e10 : vs 10 = _ := hf 10 _ _ rfl rfl
  have e11 : vs 11 = _ := hf 11 _ _ rfl rfl
  have e12 : vs 12 = _ := hf 12 _ _ rfl rfl
  have e13 : vs 13 = _ := hf 13 _ _ rfl rfl
  have e14 : vs 14 = _ := hf 14 _ _ rfl rfl
  simp only [putAll, Nat.zero_add, Nat.reduceAdd, e0, e1, e2, e3, e4, e5, e6, e7, e8, e9, e10, e11, e12, e13, e14, hgg3, hgg4, hgg5, Act.put, List.setIfInBounds_toArray, List.set_cons_succ, List.set_cons_zero]
  clear hJ hf hL e0 e1 e2 e3 e4 e5 e6 e7 e8 e9 e10 e11 e12 e13 e14 hgg3 hgg4 hgg5 apg3 apg4 apg5 owng3 owng4 owng5
  go_upto_region 2 with fail
  go_wp2_with (first
    | refine wpList_load_prt (by rfl) 0 (by decide) (.tmp 24) (by rfl) bP (by rfl) (hK.at bP (QA ⟨X1, Y1, Z1⟩) 68 (.tail _ (.tail _ (.tail _ (.tail _ (.head _)))))) ?_
    | refine wpList_load_prt (by rfl) 1 (by decide) (.tmp 26) (by rfl) bP (by rfl) (hK.at bP (QA ⟨X1, Y1, Z1⟩) 68 (.tail _ (.tail _ (.tail _ (.tail _ (.head _)))))) ?_)
  refine (cmul hX1.out hY1.out Hxy.out _ (TC.keep hT hK.2)).mono ?_
  rintro e V6 ⟨rfl, bw⟩
  have hK := hK.below bw
  clear bw
  go_upto_region 3 with (refine wpList_store_new (by rfl) 22 (.tmp 6) (.tmp 28) (by rfl) _ (B32 (bdig xy)) (by rfl) (by rfl) (B32_info _) (B32_sizes _ _) (B32_one _) (by rfl) ?_)
  have lt_g5 := (hK.at g5 (B32 (bdig zz)) 22 (.head _)).lt
  have lt_g4 := (hK.at g4 (B32 (bdig yy)) 22 (.tail _ (.head _))).lt
  have lt_g3 := (hK.at g3 (B32 (bdig xx)) 22 (.tail _ (.tail _ (.head _)))).lt
  have lt_bR := (hK.at bR (QA ⟨0, 0, 0⟩) 68 (.tail _ (.tail _ (.tail _ (.head _))))).lt
  have lt_bP := (hK.at bP (QA ⟨X1, Y1, Z1⟩) 68 (.tail _ (.tail _ (.tail _ (.tail _ (.head _)))))).lt
  have le_b7 := show Hid _ from hK.2.size
  have hK := hK.alloc (B32 (bdig xy)) 22
  generalize V6.alloc (.cells (B32 (bdig xy)) 22) = V8 at *
  obtain ⟨b7, Hb7⟩ : ∃ b, Hid (V6.heap.size = b) := ⟨_, rfl⟩
  have ne_g5_b7 : Hid (g5 ≠ b7) := by show _ ≠ _; rw [← Hb7.out]; exact Nat.ne_of_lt lt_g5
  have ne_g4_b7 : Hid (g4 ≠ b7) := by show _ ≠ _; rw [← Hb7.out]; exact Nat.ne_of_lt lt_g4
  have ne_g3_b7 : Hid (g3 ≠ b7) := by show _ ≠ _; rw [← Hb7.out]; exact Nat.ne_of_lt lt_g3
  have ne_bR_b7 : Hid (bR ≠ b7) := by show _ ≠ _; rw [← Hb7.out]; exact Nat.ne_of_lt lt_bR
  have ne_bP_b7 : Hid (bP ≠ b7) := by show _ ≠ _; rw [← Hb7.out]; exact Nat.ne_of_lt lt_bP
  have le_b7 : Hid (w.heap.size ≤ b7) := by show _ ≤ _; rw [← Hb7.out]; exact le_b7.out
  rw [Hb7.out] at hK ⊢
  clear lt_g5 lt_g4 lt_g3 lt_bR lt_bP
  go_wp2_with (first
    | refine wpList_load_own (by rfl) 22 (.tmp 4) (by rfl) g4 (by rfl) (B32 (bdig yy)) _ (hK.at g4 (B32 (bdig yy)) 22 (.tail _ (.tail _ (.head _)))) Tryd.underlying22 (by rfl) (B32_info _) ?_
    | refine wpList_load_own (by rfl) 22 (.tmp 3) (by rfl) g3 (by rfl) (B32 (bdig xx)) _ (hK.at g3 (B32 (bdig xx)) 22 (.tail _ (.tail _ (.tail _ (.head _))))) Tryd.underlying22 (by rfl) (B32_info _) ?_)
  refine (csub hyy.out hxx.out Hov.out _ (TC.keep hT hK.2)).mono ?_
  rintro e V9 ⟨rfl, bw⟩
  have hK := hK.below bw
  clear bw
  go_upto_region 4 with (refine wpList_store_new (by rfl) 22 (.tmp 7) (.tmp 31) (by rfl) _ (B32 (bdig ov)) (by rfl) (by rfl) (B32_info _) (B32_sizes _ _) (B32_one _) (by rfl) ?_)
  have lt_b7 := (hK.at b7 (B32 (bdig xy)) 22 (.head _)).lt
  have lt_g5 := (hK.at g5 (B32 (bdig zz)) 22 (.tail _ (.head _))).lt
  have lt_g4 := (hK.at g4 (B32 (bdig yy)) 22 (.tail _ (.tail _ (.head _)))).lt
  have lt_g3 := (hK.at g3 (B32 (bdig xx)) 22 (.tail _ (.tail _ (.tail _ (.head _))))).lt
  have lt_bR := (hK.at bR (QA ⟨0, 0, 0⟩) 68 (.tail _ (.tail _ (.tail _ (.tail _ (.head _)))))).lt
  have lt_bP := (hK.at bP (QA ⟨X1, Y1, Z1⟩) 68 (.tail _ (.tail _ (.tail _ (.tail _ (.tail _ (.head _))))))).lt
  have le_b10 := show Hid _ from hK.2.size
  have hK := hK.alloc (B32 (bdig ov)) 22
  generalize V9.alloc (.cells (B32 (bdig ov)) 22) = V11 at *
  obtain ⟨b10, Hb10⟩ : ∃ b, Hid (V9.heap.size = b) := ⟨_, rfl⟩
  have ne_b7_b10 : Hid (b7 ≠ b10) := by show _ ≠ _; rw [← Hb10.out]; exact Nat.ne_of_lt lt_b7
  have ne_g5_b10 : Hid (g5 ≠ b10) := by show _ ≠ _; rw [← Hb10.out]; exact Nat.ne_of_lt lt_g5
  have ne_g4_b10 : Hid (g4 ≠ b10) := by show _ ≠ _; rw [← Hb10.out]; exact Nat.ne_of_lt lt_g4
  have ne_g3_b10 : Hid (g3 ≠ b10) := by show _ ≠ _; rw [← Hb10.out]; exact Nat.ne_of_lt lt_g3
  have ne_bR_b10 : Hid (bR ≠ b10) := by show _ ≠ _; rw [← Hb10.out]; exact Nat.ne_of_lt lt_bR
  have ne_bP_b10 : Hid (bP ≠ b10) := by show _ ≠ _; rw [← Hb10.out]; exact Nat.ne_of_lt lt_bP
  have le_b10 : Hid (w.heap.size ≤ b10) := by show _ ≤ _; rw [← Hb10.out]; exact le_b10.out
  rw [Hb10.out] at hK ⊢
  clear lt_b7 lt_g5 lt_g4 lt_g3 lt_bR lt_bP
  have hK : Kp [(b10, B32 (bdig ov), 22), (b7, B32 (bdig xy), 22), (g5, B32 (bdig zz), 22), (g4, B32 (bdig yy), 22), (g3, B32 (bdig xx), 22), (bR, QA ⟨0, 0, 0⟩, 68)] w V11 := ((((((hK.none.cons (hK.at bR (QA ⟨0, 0, 0⟩) 68 (.tail _ (.tail _ (.tail _ (.tail _ (.tail _ (.head _)))))))).cons (hK.at g3 (B32 (bdig xx)) 22 (.tail _ (.tail _ (.tail _ (.tail _ (.head _))))))).cons (hK.at g4 (B32 (bdig yy)) 22 (.tail _ (.tail _ (.tail _ (.head _)))))).cons (hK.at g5 (B32 (bdig zz)) 22 (.tail _ (.tail _ (.head _))))).cons (hK.at b7 (B32 (bdig xy)) 22 (.tail _ (.head _)))).cons (hK.at b10 (B32 (bdig ov)) 22 (.head _)))
  refine wp_region_told 51 (by kernel_rfl) (by kernel_rfl) (by rfl) (factDb4 zz z2 ov un) (fun L vs => MkN 1 [(b10, B32 (bdig ov), 22), (b7, B32 (bdig xy), 22), (g5, B32 (bdig zz), 22), (g4, B32 (bdig yy), 22), (g3, B32 (bdig xx), 22), (bR, QA ⟨0, 0, 0⟩, 68)] w (fun _ => B32 fun _ => 0) (fun _ => B32 (bdig un)) (fun _ => 22) (fun i => L (5 + i)) (fun i => L (6 + i)) (fun i => vs (5 + i))) (fun _ => MkN.drew hK (fun _ _ => rfl)) ?_ ?_
  · intro L vs ac wc i o hF hLi ho hd K hK
    rcases i with _ | _ | _ | _ | _ | _ | _ | i
    · have ho' := ho
      obtain rfl := Option.some.inj ho
      have f5 : ac.tmps.getD 5 undef = .pointer (some ⟨g5, 0, none⟩) := slott hF 0 hLi 5 (by kernel_rfl)
      refine step_do ho' (wanted_free rfl) ?_
      exact wp_load_own 22 (.tmp 5) rfl g5 f5 (B32 (bdig zz)) _ 22 (hF.j.1.at g5 (B32 (bdig zz)) 22 (.tail _ (.tail _ (.head _)))) Tryd.underlying22 rfl (B32_info _) (hK _ _ (.inr rfl) (hF.j.congr (fun i hi => if_off (by decide) hi) (fun i hi => if_off (by decide) hi) (fun i hi => if_off (by decide) hi)))
    · have ho' := ho
      obtain rfl := Option.some.inj ho
      have f5 : ac.tmps.getD 5 undef = .pointer (some ⟨g5, 0, none⟩) := slott hF 1 hLi 5 (by kernel_rfl)
      refine step_do ho' (wanted_free rfl) ?_
      exact wp_load_own 22 (.tmp 5) rfl g5 f5 (B32 (bdig zz)) _ 22 (hF.j.1.at g5 (B32 (bdig zz)) 22 (.tail _ (.tail _ (.head _)))) Tryd.underlying22 rfl (B32_info _) (hK _ _ (.inr rfl) (hF.j.congr (fun i hi => if_off (by decide) hi) (fun i hi => if_off (by decide) hi) (fun i hi => if_off (by decide) hi)))
    · have ho' := ho
      obtain rfl := Option.some.inj ho
      have f32 : ac.tmps.getD 32 undef = .agg (B32 (bdig zz)) := (factt hF hd 0 rfl rfl (by kernel_rfl)).1.trans (factt hF hd 0 rfl rfl (by kernel_rfl)).2
      have f33 : ac.tmps.getD 33 undef = .agg (B32 (bdig zz)) := (factt hF hd 1 rfl rfl (by kernel_rfl)).1.trans (factt hF hd 1 rfl rfl (by kernel_rfl)).2
      refine step_do ho' (wanted_free rfl) ?_
      unfold Oper.wp
      go_simp
      refine (cadd hzz.out hzz.out Hz2.out _ (TC.keep hT hF.j.1.2)).mono ?_
      rintro e w' ⟨rfl, hB⟩
      exact hK _ _ (.inr rfl) ((hF.j.congr (fun i hi => if_off (by decide) hi) (fun i hi => if_off (by decide) hi) (fun i hi => if_off (by decide) hi)).below hB)
    · have ho' := ho
      obtain rfl := Option.some.inj ho
      have f7 : ac.tmps.getD 7 undef = .pointer (some ⟨b10, 0, none⟩) := slott hF 3 hLi 7 (by kernel_rfl)
      refine step_do ho' (wanted_free rfl) ?_
      exact wp_load_own 22 (.tmp 7) rfl b10 f7 (B32 (bdig ov)) _ 22 (hF.j.1.at b10 (B32 (bdig ov)) 22 (.head _)) Tryd.underlying22 rfl (B32_info _) (hK _ _ (.inr rfl) (hF.j.congr (fun i hi => if_off (by decide) hi) (fun i hi => if_off (by decide) hi) (fun i hi => if_off (by decide) hi)))
    · have ho' := ho
      obtain rfl := Option.some.inj ho
      have f34 : ac.tmps.getD 34 undef = .agg (B32 (bdig z2)) := (factt hF hd 2 rfl rfl (by kernel_rfl)).1.trans (factt hF hd 2 rfl rfl (by kernel_rfl)).2
      have f35 : ac.tmps.getD 35 undef = .agg (B32 (bdig ov)) := (factt hF hd 3 rfl rfl (by kernel_rfl)).1.trans (factt hF hd 3 rfl rfl (by kernel_rfl)).2
      refine step_do ho' (wanted_free rfl) ?_
      unfold Oper.wp
      go_simp
      refine (csub hz2.out hov.out Hun.out _ (TC.keep hT hF.j.1.2)).mono ?_
      rintro e w' ⟨rfl, hB⟩
      exact hK _ _ (.inr rfl) ((hF.j.congr (fun i hi => if_off (by decide) hi) (fun i hi => if_off (by decide) hi) (fun i hi => if_off (by decide) hi)).below hB)
    · have ho' := ho
      obtain rfl := Option.some.inj ho
      refine step_do ho' (wanted_free rfl) ?_
      have hs := notyett hF 5 hLi 6 rfl (by kernel_rfl)
      unfold Oper.wp
      go_simp
      exact hK _ _ (.inr ⟨_, rfl⟩) (hF.j.alloc 0 (fun i _ hne => if_oth (k := 0) rfl hne) (fun i hi => if_off (by decide) hi) (fun i _ hne => if_oth (k := 0) rfl hne) rfl hs)
    · have ho' := ho
      obtain rfl := Option.some.inj ho
      have f36 : ac.tmps.getD 36 undef = .agg (B32 (bdig un)) := (factt hF hd 4 rfl rfl (by kernel_rfl)).1.trans (factt hF hd 4 rfl rfl (by kernel_rfl)).2
      refine step_do ho' (wanted_free rfl) ?_
      obtain ⟨fg, gq, hg⟩ := factt hF hd 5 rfl rfl (by kernel_rfl)
      have hm := dep hd 5 (by kernel_rfl)
      have hj := hF.j
      rw [hg] at fg
      have hj2 := hj.at (k := 0) (by decide) hm hg hLi
      refine wp_store_own 22 (.tmp 8) (.tmp 36) rfl gq (B32 (bdig un)) fg f36 hj2.2.2 (B32_sizes _ _) (B32_info _) (B32_one _) rfl ?_
      exact hK undef _ (.inl rfl) (hj.store (k := 0) (by decide) hm hg hLi (B32_sizes _ _) (fun i hi => if_off (by decide) hi) (fun i _ hne => if_oth (k := 0) rfl hne) (fun i hi => if_off (by decide) hi) rfl)
    · cases ho
  intro L vs V12 hL hJ hf
  obtain ⟨g13, hgg13⟩ := hf 5 _ _ rfl rfl
  obtain ⟨le0, apg13, owng13⟩ := hJ.got (k := 0) (by decide) (hL 5 (by decide)) hgg13 (hL 6 (by decide))
  have le_g13 := show Hid _ from le0
  clear le0
  have ne_bR_g13 : Hid (bR ≠ g13) := apg13 (bR, QA ⟨0, 0, 0⟩, 68) (.tail _ (.tail _ (.tail _ (.tail _ (.tail _ (.head _))))))
  have hK : Kp [(g13, B32 (bdig un), 22), (b10, B32 (bdig ov), 22), (b7, B32 (bdig xy), 22), (g5, B32 (bdig zz), 22), (g4, B32 (bdig yy), 22), (g3, B32 (bdig xx), 22), (bR, QA ⟨0, 0, 0⟩, 68)] w V12 := (hJ.1.cons owng13)
  have e0 : vs 0 = _ := hf 0 _ _ rfl rfl
  have e1 : vs 1 = _ := hf 1 _ _ rfl rfl
  have e2 : vs 2 = _ := hf 2 _ _ rfl rfl
  have e3 : vs 3 = _ := hf 3 _ _ rfl rfl
  have e4 : vs 4 = _ := hf 4 _ _ rfl rfl
  simp only [putAll, Nat.zero_add, Nat.reduceAdd, e0, e1, e2, e3, e4, hgg13, Act.put, List.setIfInBounds_toArray, List.set_cons_succ, List.set_cons_zero]
  clear hJ hf hL e0 e1 e2 e3 e4 hgg13 apg13 owng13
  go_upto_region 5 with fail
  refine wp_region_vals 51 (by kernel_rfl) (by kernel_rfl) (by rfl) (valDb5 xx yy xy ov un x2 X yx Y Z) (fun L => Kp [(g13, B32 (bdig un), 22), (b10, B32 (bdig ov), 22), (b7, B32 (bdig xy), 22), (g5, B32 (bdig zz), 22), (g4, B32 (bdig yy), 22), (g3, B32 (bdig xx), 22), (bR, if L 14 = true then QA ⟨X, Y, Z⟩ else QA ⟨0, 0, 0⟩, 68)] w) hK.drew ?_ ?_
  · intro L ac wc i o hF hLi ho hd K hK
    rcases i with _ | _ | _ | _ | _ | _ | _ | _ | _ | _ | _ | _ | _ | _ | _ | i
    · have ho' := ho
      obtain rfl := Option.some.inj ho
      have f6 : ac.tmps.getD 6 undef = .pointer (some ⟨b7, 0, none⟩) := slotv hF 0 hLi 6 (by kernel_rfl)
      refine step_do ho' (wanted_free rfl) ?_
      exact wp_load_own 22 (.tmp 6) rfl b7 f6 (B32 (bdig xy)) _ 22 (hF.j.at b7 (B32 (bdig xy)) 22 (.tail _ (.tail _ (.head _)))) Tryd.underlying22 rfl (B32_info _) (hK _ _ (.inr rfl) hF.j)
    · have ho' := ho
      obtain rfl := Option.some.inj ho
      have f6 : ac.tmps.getD 6 undef = .pointer (some ⟨b7, 0, none⟩) := slotv hF 1 hLi 6 (by kernel_rfl)
      refine step_do ho' (wanted_free rfl) ?_
      exact wp_load_own 22 (.tmp 6) rfl b7 f6 (B32 (bdig xy)) _ 22 (hF.j.at b7 (B32 (bdig xy)) 22 (.tail _ (.tail _ (.head _)))) Tryd.underlying22 rfl (B32_info _) (hK _ _ (.inr rfl) hF.j)
    · have ho' := ho
      obtain rfl := Option.some.inj ho
      have f37 : ac.tmps.getD 37 undef = .agg (B32 (bdig xy)) := valv hF hd 0 rfl rfl (by kernel_rfl)
      have f38 : ac.tmps.getD 38 undef = .agg (B32 (bdig xy)) := valv hF hd 1 rfl rfl (by kernel_rfl)
      refine step_do ho' (wanted_free rfl) ?_
      unfold Oper.wp
      go_simp
      refine (cadd hxy.out hxy.out Hx2.out _ (TC.keep hT hF.j.2)).mono ?_
      rintro e w' ⟨rfl, hB⟩
      exact hK _ _ (.inr rfl) (hF.j.below hB)
    · have ho' := ho
      obtain rfl := Option.some.inj ho
      have f8 : ac.tmps.getD 8 undef = .pointer (some ⟨g13, 0, none⟩) := slotv hF 3 hLi 8 (by kernel_rfl)
      refine step_do ho' (wanted_free rfl) ?_
      exact wp_load_own 22 (.tmp 8) rfl g13 f8 (B32 (bdig un)) _ 22 (hF.j.at g13 (B32 (bdig un)) 22 (.head _)) Tryd.underlying22 rfl (B32_info _) (hK _ _ (.inr rfl) hF.j)
    · have ho' := ho
      obtain rfl := Option.some.inj ho
      have f39 : ac.tmps.getD 39 undef = .agg (B32 (bdig x2)) := valv hF hd 2 rfl rfl (by kernel_rfl)
      have f40 : ac.tmps.getD 40 undef = .agg (B32 (bdig un)) := valv hF hd 3 rfl rfl (by kernel_rfl)
      refine step_do ho' (wanted_free rfl) ?_
      unfold Oper.wp
      go_simp
      refine (cmul hx2.out hun.out HX.out _ (TC.keep hT hF.j.2)).mono ?_
      rintro e w' ⟨rfl, hB⟩
      exact hK _ _ (.inr rfl) (hF.j.below hB)
    · have ho' := ho
      obtain rfl := Option.some.inj ho
      have f4 : ac.tmps.getD 4 undef = .pointer (some ⟨g4, 0, none⟩) := slotv hF 5 hLi 4 (by kernel_rfl)
      refine step_do ho' (wanted_free rfl) ?_
      exact wp_load_own 22 (.tmp 4) rfl g4 f4 (B32 (bdig yy)) _ 22 (hF.j.at g4 (B32 (bdig yy)) 22 (.tail _ (.tail _ (.tail _ (.tail _ (.head _)))))) Tryd.underlying22 rfl (B32_info _) (hK _ _ (.inr rfl) hF.j)
    · have ho' := ho
      obtain rfl := Option.some.inj ho
      have f3 : ac.tmps.getD 3 undef = .pointer (some ⟨g3, 0, none⟩) := slotv hF 6 hLi 3 (by kernel_rfl)
      refine step_do ho' (wanted_free rfl) ?_
      exact wp_load_own 22 (.tmp 3) rfl g3 f3 (B32 (bdig xx)) _ 22 (hF.j.at g3 (B32 (bdig xx)) 22 (.tail _ (.tail _ (.tail _ (.tail _ (.tail _ (.head _))))))) Tryd.underlying22 rfl (B32_info _) (hK _ _ (.inr rfl) hF.j)
    · have ho' := ho
      obtain rfl := Option.some.inj ho
      have f42 : ac.tmps.getD 42 undef = .agg (B32 (bdig yy)) := valv hF hd 5 rfl rfl (by kernel_rfl)
      have f43 : ac.tmps.getD 43 undef = .agg (B32 (bdig xx)) := valv hF hd 6 rfl rfl (by kernel_rfl)
      refine step_do ho' (wanted_free rfl) ?_
      unfold Oper.wp
      go_simp
      refine (cadd hyy.out hxx.out Hyx.out _ (TC.keep hT hF.j.2)).mono ?_
      rintro e w' ⟨rfl, hB⟩
      exact hK _ _ (.inr rfl) (hF.j.below hB)
    · have ho' := ho
      obtain rfl := Option.some.inj ho
      have f7 : ac.tmps.getD 7 undef = .pointer (some ⟨b10, 0, none⟩) := slotv hF 8 hLi 7 (by kernel_rfl)
      refine step_do ho' (wanted_free rfl) ?_
      exact wp_load_own 22 (.tmp 7) rfl b10 f7 (B32 (bdig ov)) _ 22 (hF.j.at b10 (B32 (bdig ov)) 22 (.tail _ (.head _))) Tryd.underlying22 rfl (B32_info _) (hK _ _ (.inr rfl) hF.j)
    · have ho' := ho
      obtain rfl := Option.some.inj ho
      have f44 : ac.tmps.getD 44 undef = .agg (B32 (bdig yx)) := valv hF hd 7 rfl rfl (by kernel_rfl)
      have f45 : ac.tmps.getD 45 undef = .agg (B32 (bdig ov)) := valv hF hd 8 rfl rfl (by kernel_rfl)
      refine step_do ho' (wanted_free rfl) ?_
      unfold Oper.wp
      go_simp
      refine (cmul hyx.out hov.out HY.out _ (TC.keep hT hF.j.2)).mono ?_
      rintro e w' ⟨rfl, hB⟩
      exact hK _ _ (.inr rfl) (hF.j.below hB)
    · have ho' := ho
      obtain rfl := Option.some.inj ho
      have f7 : ac.tmps.getD 7 undef = .pointer (some ⟨b10, 0, none⟩) := slotv hF 10 hLi 7 (by kernel_rfl)
      refine step_do ho' (wanted_free rfl) ?_
      exact wp_load_own 22 (.tmp 7) rfl b10 f7 (B32 (bdig ov)) _ 22 (hF.j.at b10 (B32 (bdig ov)) 22 (.tail _ (.head _))) Tryd.underlying22 rfl (B32_info _) (hK _ _ (.inr rfl) hF.j)
    · have ho' := ho
      obtain rfl := Option.some.inj ho
      have f8 : ac.tmps.getD 8 undef = .pointer (some ⟨g13, 0, none⟩) := slotv hF 11 hLi 8 (by kernel_rfl)
      refine step_do ho' (wanted_free rfl) ?_
      exact wp_load_own 22 (.tmp 8) rfl g13 f8 (B32 (bdig un)) _ 22 (hF.j.at g13 (B32 (bdig un)) 22 (.head _)) Tryd.underlying22 rfl (B32_info _) (hK _ _ (.inr rfl) hF.j)
    · have ho' := ho
      obtain rfl := Option.some.inj ho
      have f47 : ac.tmps.getD 47 undef = .agg (B32 (bdig ov)) := valv hF hd 10 rfl rfl (by kernel_rfl)
      have f48 : ac.tmps.getD 48 undef = .agg (B32 (bdig un)) := valv hF hd 11 rfl rfl (by kernel_rfl)
      refine step_do ho' (wanted_free rfl) ?_
      unfold Oper.wp
      go_simp
      refine (cmul hov.out hun.out HZ.out _ (TC.keep hT hF.j.2)).mono ?_
      rintro e w' ⟨rfl, hB⟩
      exact hK _ _ (.inr rfl) (hF.j.below hB)
    · have ho' := ho
      obtain rfl := Option.some.inj ho
      have f41 : ac.tmps.getD 41 undef = .agg (B32 (bdig X)) := valv hF hd 4 rfl rfl (by kernel_rfl)
      have f46 : ac.tmps.getD 46 undef = .agg (B32 (bdig Y)) := valv hF hd 9 rfl rfl (by kernel_rfl)
      have f49 : ac.tmps.getD 49 undef = .agg (B32 (bdig Z)) := valv hF hd 12 rfl rfl (by kernel_rfl)
      refine step_do ho' (wanted_free rfl) ?_
      exact wp_build_q 41 46 49 (X) (Y) (Z) rfl f41 f46 f49 (hK _ _ (.inr rfl) hF.j)
    · have ho' := ho
      obtain rfl := Option.some.inj ho
      have f2 : ac.tmps.getD 2 undef = .pointer (some ⟨bR, 0, none⟩) := slotv hF 14 hLi 2 (by kernel_rfl)
      have f50 : ac.tmps.getD 50 undef = .agg (QA ⟨X, Y, Z⟩) := valv hF hd 13 rfl rfl (by kernel_rfl)
      refine step_do ho' (wanted_free rfl) ?_
      have hj := hF.j
      rw [hLi] at hj
      have hj : Kp [(g13, B32 (bdig un), 22), (b10, B32 (bdig ov), 22), (b7, B32 (bdig xy), 22), (g5, B32 (bdig zz), 22), (g4, B32 (bdig yy), 22), (g3, B32 (bdig xx), 22), (bR, QA ⟨0, 0, 0⟩, 68)] w wc := hj
      have hj : Kp [(bR, QA ⟨0, 0, 0⟩, 68), (g13, B32 (bdig un), 22), (b10, B32 (bdig ov), 22), (b7, B32 (bdig xy), 22), (g5, B32 (bdig zz), 22), (g4, B32 (bdig yy), 22), (g3, B32 (bdig xx), 22)] w wc := (((((((hj.none.cons (hj.at g3 (B32 (bdig xx)) 22 (.tail _ (.tail _ (.tail _ (.tail _ (.tail _ (.head _)))))))).cons (hj.at g4 (B32 (bdig yy)) 22 (.tail _ (.tail _ (.tail _ (.tail _ (.head _))))))).cons (hj.at g5 (B32 (bdig zz)) 22 (.tail _ (.tail _ (.tail _ (.head _)))))).cons (hj.at b7 (B32 (bdig xy)) 22 (.tail _ (.tail _ (.head _))))).cons (hj.at b10 (B32 (bdig ov)) 22 (.tail _ (.head _)))).cons (hj.at g13 (B32 (bdig un)) 22 (.head _))).cons (hj.at bR (QA ⟨0, 0, 0⟩) 68 (.tail _ (.tail _ (.tail _ (.tail _ (.tail _ (.tail _ (.head _)))))))))
      refine wp_store_own 68 (.tmp 2) (.tmp 50) rfl bR (QA ⟨X, Y, Z⟩) f2 f50 (hj.at bR (QA ⟨0, 0, 0⟩) 68 (.head _)) (QA_sizes _ _) (QA_info _) (QA_one _) rfl ?_
      have hj := Kp.set (A' := QA ⟨X, Y, Z⟩) hj (by simp only [List.forall_mem_cons, List.not_mem_nil, false_implies, implies_true, and_true]; exact ⟨(Ne.symm ne_bR_g13.out), (Ne.symm ne_bR_b10.out), (Ne.symm ne_bR_b7.out), (Ne.symm ne_bR_g5.out), (Ne.symm ne_bR_g4.out), (Ne.symm ne_bR_g3.out)⟩) le_bR.out (QA_sizes _ _)
      exact hK undef _ (.inl rfl) (((((((hj.none.cons (hj.at bR (QA ⟨X, Y, Z⟩) 68 (.head _))).cons (hj.at g3 (B32 (bdig xx)) 22 (.tail _ (.tail _ (.tail _ (.tail _ (.tail _ (.tail _ (.head _))))))))).cons (hj.at g4 (B32 (bdig yy)) 22 (.tail _ (.tail _ (.tail _ (.tail _ (.tail _ (.head _)))))))).cons (hj.at g5 (B32 (bdig zz)) 22 (.tail _ (.tail _ (.tail _ (.tail _ (.head _))))))).cons (hj.at b7 (B32 (bdig xy)) 22 (.tail _ (.tail _ (.tail _ (.head _)))))).cons (hj.at b10 (B32 (bdig ov)) 22 (.tail _ (.tail _ (.head _))))).cons (hj.at g13 (B32 (bdig un)) 22 (.tail _ (.head _))))
    · cases ho
  intro L V14 hL hKq
  rw [hL 14 (by decide)] at hKq
  have hK : Kp [(g13, B32 (bdig un), 22), (b10, B32 (bdig ov), 22), (b7, B32 (bdig xy), 22), (g5, B32 (bdig zz), 22), (g4, B32 (bdig yy), 22), (g3, B32 (bdig xx), 22), (bR, QA ⟨X, Y, Z⟩, 68)] w V14 := hKq
  clear hKq hL
  simp only [putAll, valDb5, Act.put, List.setIfInBounds_toArray, List.set_cons_succ, List.set_cons_zero]
  go_wp2_with fail
  exact bodyPost_ret (results_own Tryd.results94 _ _ bR (QA ⟨X, Y, Z⟩) _ (by rfl) (hK.at bR (QA ⟨X, Y, Z⟩) 68 (.tail _ (.tail _ (.tail _ (.tail _ (.tail _ (.tail _ (.head _)))))))) Tryd.underlying68 rfl (QA_info _)) rfl ⟨rfl, hK.2⟩
theorem double_at {P : Pt E5} {p s : N3} (hp : Ok3 P p) (hs : dbl3 p = s) (w : World) (hT : TC w) : Calls Tryd.prog 94 #[.agg (QA p)] w fun x w' => x = .returned (.agg (QA s)) ∧ Below w.heap.size w w' := by
  subst hs
  exact double_nat hp.lX hp.lY hp.lZ w hT
def valBe (yy s e g v q x : Nat) (b : Bool) : Nat → Value
  | 0 => .agg (B32 (bdig yy))
  | 1 => .agg (B32 (bdig 1))
  | 2 => .agg (B32 (bdig s))
  | 3 => .agg (B32 (bdig 1))
  | 4 => .agg (B32 (bdig dd))
  | 5 => .agg (B32 (bdig yy))
  | 6 => .agg (B32 (bdig e))
  | 7 => .agg (B32 (bdig g))
  | 8 => .agg (B32 (bdig v))
  | 9 => .agg (B32 (bdig q))
  | 10 => .tuple #[.agg (B32 (bdig x)), .bool b]
  | 11 => .agg (B32 (bdig x))
  | 12 => .bool b
  | 14 => .bool b
  | _ => undef
theorem rootBo_is (o : Option Nat) : ∃ x b, rootBo o = .tuple #[.agg (B32 (bdig x)), .bool b] := by
  cases o with
  | none => exact ⟨0, false, rfl⟩
  | some z => exact ⟨z, true, rfl⟩
theorem usq_swap {y yy s e g v q : Nat} (Hyy : y * y % pp = yy) (Hs : subp yy 1 = s) (He : dd * yy % pp = e) (Hg : (1 + e) % pp = g) (Hv : finv g = v) (Hq : s * v % pp = q) : usq y = q := by
  rw [← Hq, ← Hs, ← Hv, ← Hg, ← He, ← Hyy]
  unfold usq
  rw [Nat.add_comm 1]
set_option maxRecDepth 100000 in
set_option maxHeartbeats 6000000 in
theorem beside_nat {y : Nat} (hy : Hid (y < R256)) (w : World) (hT : TC w) : Calls Tryd.prog 64 #[.agg (B32 (bdig y))] w fun r w' => r = .returned (rootBo (froot (usq y))) ∧ Below w.heap.size w w' := by
  have hz := (zero_of_info zeroB32).1
  obtain ⟨yy, Hyy⟩ : ∃ z, Hid (y * y % pp = z) := ⟨_, rfl⟩
  have hyy : Hid (yy < R256) := by show _ < _; rw [← Hyy.out]; exact lt_of_mod
  obtain ⟨s, Hs⟩ : ∃ z, Hid (subp yy 1 = z) := ⟨_, rfl⟩
  have hs : Hid (s < R256) := by show _ < _; rw [← Hs.out]; exact subp_R _ _
  obtain ⟨e, He⟩ : ∃ z, Hid (dd * yy % pp = z) := ⟨_, rfl⟩
  have he : Hid (e < R256) := by show _ < _; rw [← He.out]; exact lt_of_mod
  obtain ⟨g, Hg⟩ : ∃ z, Hid ((1 + e) % pp = z) := ⟨_, rfl⟩
  have hg : Hid (g < R256) := by show _ < _; rw [← Hg.out]; exact lt_of_mod
  obtain ⟨v, Hv⟩ : ∃ z, Hid (finv g = z) := ⟨_, rfl⟩
  have hv : Hid (v < R256) := by show _ < _; rw [← Hv.out]; exact finv_lR _
  obtain ⟨q, Hq⟩ : ∃ z, Hid (s * v % pp = z) := ⟨_, rfl⟩
  have hq : Hid (q < R256) := by show _ < _; rw [← Hq.out]; exact lt_of_mod
  rw [usq_swap Hyy.out Hs.out He.out Hg.out Hv.out Hq.out]
  obtain ⟨x, b, hro⟩ := rootBo_is (froot q)
  have Hro := show Hid _ from hro
  rw [hro]
  clear hro
  go_enter Tryd.func64, Tryd.ntmps64
  go_upto_region 1 with fail
  have hK := ((Kp.nil w).alloc (B32 (bdig y)) 22).alloc (B32 fun _ => 0) 22
  rw [World.size_alloc] at hK
  generalize (w.alloc (.cells (B32 (bdig y)) 22)).alloc (.cells (B32 fun _ => 0) 22) = W at *
  obtain ⟨bY, HbY⟩ : ∃ b, Hid (w.heap.size = b) := ⟨_, rfl⟩
  obtain ⟨bR, HbR⟩ : ∃ b, Hid (bY + 1 = b) := ⟨_, rfl⟩
  have le_bY : Hid (w.heap.size ≤ bY) := by show _ ≤ _; have := HbY.out; omega
  have le_bR : Hid (w.heap.size ≤ bR) := by show _ ≤ _; have := HbY.out; have := HbR.out; omega
  have ne_bY_bR : Hid (bY ≠ bR) := by show _ ≠ _; have := HbR.out; omega
  rw [HbY.out, HbR.out] at hK ⊢
  go_upto_region 2 with (first
    | refine wpList_build_one (by rfl) (by rfl) ?_
    | refine wpList_store_new (by rfl) 22 (.tmp 4) (.tmp 6) (by rfl) _ (B32 (bdig 1)) (by rfl) (by rfl) (B32_info _) (B32_sizes _ _) (B32_one _) (by rfl) ?_)
  have lt_bR := (hK.at bR (B32 fun _ => 0) 22 (.head _)).lt
  have lt_bY := (hK.at bY (B32 (bdig y)) 22 (.tail _ (.head _))).lt
  have le_b1 := show Hid _ from hK.2.size
  have hK := hK.alloc (B32 (bdig 1)) 22
  generalize W.alloc (.cells (B32 (bdig 1)) 22) = V2 at *
  obtain ⟨b1, Hb1⟩ : ∃ b, Hid (W.heap.size = b) := ⟨_, rfl⟩
  have ne_bR_b1 : Hid (bR ≠ b1) := by show _ ≠ _; rw [← Hb1.out]; exact Nat.ne_of_lt lt_bR
  have ne_bY_b1 : Hid (bY ≠ b1) := by show _ ≠ _; rw [← Hb1.out]; exact Nat.ne_of_lt lt_bY
  have le_b1 : Hid (w.heap.size ≤ b1) := by show _ ≤ _; rw [← Hb1.out]; exact le_b1.out
  rw [Hb1.out] at hK ⊢
  clear lt_bR lt_bY
  go_wp2_with (first
    | refine wpList_load_own (by rfl) 22 (.tmp 1) (by rfl) bY (by rfl) (B32 (bdig y)) _ (hK.at bY (B32 (bdig y)) 22 (.tail _ (.tail _ (.head _)))) Tryd.underlying22 (by rfl) (B32_info _) ?_
    | refine wpList_load_own (by rfl) 22 (.tmp 1) (by rfl) bY (by rfl) (B32 (bdig y)) _ (hK.at bY (B32 (bdig y)) 22 (.tail _ (.tail _ (.head _)))) Tryd.underlying22 (by rfl) (B32_info _) ?_)
  refine (cmul hy.out hy.out Hyy.out _ (TC.keep hT hK.2)).mono ?_
  rintro e V3 ⟨rfl, bw⟩
  have hK := hK.below bw
  clear bw
  go_upto_region 3 with (refine wpList_store_new (by rfl) 22 (.tmp 5) (.tmp 9) (by rfl) _ (B32 (bdig yy)) (by rfl) (by rfl) (B32_info _) (B32_sizes _ _) (B32_one _) (by rfl) ?_)
  have lt_b1 := (hK.at b1 (B32 (bdig 1)) 22 (.head _)).lt
  have lt_bR := (hK.at bR (B32 fun _ => 0) 22 (.tail _ (.head _))).lt
  have lt_bY := (hK.at bY (B32 (bdig y)) 22 (.tail _ (.tail _ (.head _)))).lt
  have le_b4 := show Hid _ from hK.2.size
  have hK := hK.alloc (B32 (bdig yy)) 22
  generalize V3.alloc (.cells (B32 (bdig yy)) 22) = V5 at *
  obtain ⟨b4, Hb4⟩ : ∃ b, Hid (V3.heap.size = b) := ⟨_, rfl⟩
  have ne_b1_b4 : Hid (b1 ≠ b4) := by show _ ≠ _; rw [← Hb4.out]; exact Nat.ne_of_lt lt_b1
  have ne_bR_b4 : Hid (bR ≠ b4) := by show _ ≠ _; rw [← Hb4.out]; exact Nat.ne_of_lt lt_bR
  have ne_bY_b4 : Hid (bY ≠ b4) := by show _ ≠ _; rw [← Hb4.out]; exact Nat.ne_of_lt lt_bY
  have le_b4 : Hid (w.heap.size ≤ b4) := by show _ ≤ _; rw [← Hb4.out]; exact le_b4.out
  rw [Hb4.out] at hK ⊢
  clear lt_b1 lt_bR lt_bY
  refine wp_region_vals 23 (by kernel_rfl) (by kernel_rfl) (by rfl) (valBe yy s e g v q x b) (fun L => Kp [(b4, B32 (bdig yy), 22), (b1, B32 (bdig 1), 22), (bR, if L 13 = true then B32 (bdig x) else B32 fun _ => 0, 22), (bY, B32 (bdig y), 22)] w) hK.drew ?_ ?_
  · intro L ac wc i o hF hLi ho hd K hK
    rcases i with _ | _ | _ | _ | _ | _ | _ | _ | _ | _ | _ | _ | _ | _ | _ | i
    · have ho' := ho
      obtain rfl := Option.some.inj ho
      have f5 : ac.tmps.getD 5 undef = .pointer (some ⟨b4, 0, none⟩) := slotv hF 0 hLi 5 (by kernel_rfl)
      refine step_do ho' (wanted_free rfl) ?_
      exact wp_load_own 22 (.tmp 5) rfl b4 f5 (B32 (bdig yy)) _ 22 (hF.j.at b4 (B32 (bdig yy)) 22 (.head _)) Tryd.underlying22 rfl (B32_info _) (hK _ _ (.inr rfl) hF.j)
    · have ho' := ho
      obtain rfl := Option.some.inj ho
      have f4 : ac.tmps.getD 4 undef = .pointer (some ⟨b1, 0, none⟩) := slotv hF 1 hLi 4 (by kernel_rfl)
      refine step_do ho' (wanted_free rfl) ?_
      exact wp_load_own 22 (.tmp 4) rfl b1 f4 (B32 (bdig 1)) _ 22 (hF.j.at b1 (B32 (bdig 1)) 22 (.tail _ (.head _))) Tryd.underlying22 rfl (B32_info _) (hK _ _ (.inr rfl) hF.j)
    · have ho' := ho
      obtain rfl := Option.some.inj ho
      have f10 : ac.tmps.getD 10 undef = .agg (B32 (bdig yy)) := valv hF hd 0 rfl rfl (by kernel_rfl)
      have f11 : ac.tmps.getD 11 undef = .agg (B32 (bdig 1)) := valv hF hd 1 rfl rfl (by kernel_rfl)
      refine step_do ho' (wanted_free rfl) ?_
      unfold Oper.wp
      go_simp
      refine (csub hyy.out one_R Hs.out _ (TC.keep hT hF.j.2)).mono ?_
      rintro e w' ⟨rfl, hB⟩
      exact hK _ _ (.inr rfl) (hF.j.below hB)
    · have ho' := ho
      obtain rfl := Option.some.inj ho
      have f4 : ac.tmps.getD 4 undef = .pointer (some ⟨b1, 0, none⟩) := slotv hF 3 hLi 4 (by kernel_rfl)
      refine step_do ho' (wanted_free rfl) ?_
      exact wp_load_own 22 (.tmp 4) rfl b1 f4 (B32 (bdig 1)) _ 22 (hF.j.at b1 (B32 (bdig 1)) 22 (.tail _ (.head _))) Tryd.underlying22 rfl (B32_info _) (hK _ _ (.inr rfl) hF.j)
    · have ho' := ho
      obtain rfl := Option.some.inj ho
      refine step_do ho' (wanted_free rfl) ?_
      exact wp_load_d rfl (TC.keep hT hF.j.2) (hK _ _ (.inr rfl) hF.j)
    · have ho' := ho
      obtain rfl := Option.some.inj ho
      have f5 : ac.tmps.getD 5 undef = .pointer (some ⟨b4, 0, none⟩) := slotv hF 5 hLi 5 (by kernel_rfl)
      refine step_do ho' (wanted_free rfl) ?_
      exact wp_load_own 22 (.tmp 5) rfl b4 f5 (B32 (bdig yy)) _ 22 (hF.j.at b4 (B32 (bdig yy)) 22 (.head _)) Tryd.underlying22 rfl (B32_info _) (hK _ _ (.inr rfl) hF.j)
    · have ho' := ho
      obtain rfl := Option.some.inj ho
      have f14 : ac.tmps.getD 14 undef = .agg (B32 (bdig dd)) := valv hF hd 4 rfl rfl (by kernel_rfl)
      have f15 : ac.tmps.getD 15 undef = .agg (B32 (bdig yy)) := valv hF hd 5 rfl rfl (by kernel_rfl)
      refine step_do ho' (wanted_free rfl) ?_
      unfold Oper.wp
      go_simp
      refine (cmul ddR hyy.out He.out _ (TC.keep hT hF.j.2)).mono ?_
      rintro e w' ⟨rfl, hB⟩
      exact hK _ _ (.inr rfl) (hF.j.below hB)
    · have ho' := ho
      obtain rfl := Option.some.inj ho
      have f13 : ac.tmps.getD 13 undef = .agg (B32 (bdig 1)) := valv hF hd 3 rfl rfl (by kernel_rfl)
      have f16 : ac.tmps.getD 16 undef = .agg (B32 (bdig e)) := valv hF hd 6 rfl rfl (by kernel_rfl)
      refine step_do ho' (wanted_free rfl) ?_
      unfold Oper.wp
      go_simp
      refine (cadd one_R he.out Hg.out _ (TC.keep hT hF.j.2)).mono ?_
      rintro e w' ⟨rfl, hB⟩
      exact hK _ _ (.inr rfl) (hF.j.below hB)
    · have ho' := ho
      obtain rfl := Option.some.inj ho
      have f17 : ac.tmps.getD 17 undef = .agg (B32 (bdig g)) := valv hF hd 7 rfl rfl (by kernel_rfl)
      refine step_do ho' (wanted_free rfl) ?_
      unfold Oper.wp
      go_simp
      refine (cinv hg.out Hv.out _ (TC.keep hT hF.j.2)).mono ?_
      rintro e w' ⟨rfl, hB⟩
      exact hK _ _ (.inr rfl) (hF.j.below hB)
    · have ho' := ho
      obtain rfl := Option.some.inj ho
      have f12 : ac.tmps.getD 12 undef = .agg (B32 (bdig s)) := valv hF hd 2 rfl rfl (by kernel_rfl)
      have f18 : ac.tmps.getD 18 undef = .agg (B32 (bdig v)) := valv hF hd 8 rfl rfl (by kernel_rfl)
      refine step_do ho' (wanted_free rfl) ?_
      unfold Oper.wp
      go_simp
      refine (cmul hs.out hv.out Hq.out _ (TC.keep hT hF.j.2)).mono ?_
      rintro e w' ⟨rfl, hB⟩
      exact hK _ _ (.inr rfl) (hF.j.below hB)
    · have ho' := ho
      obtain rfl := Option.some.inj ho
      have f19 : ac.tmps.getD 19 undef = .agg (B32 (bdig q)) := valv hF hd 9 rfl rfl (by kernel_rfl)
      refine step_do ho' (wanted_free rfl) ?_
      unfold Oper.wp
      go_simp
      refine (croot hq.out Hro.out _ (TC.keep hT hF.j.2)).mono ?_
      rintro e w' ⟨rfl, hB⟩
      exact hK _ _ (.inr rfl) (hF.j.below hB)
    · have ho' := ho
      obtain rfl := Option.some.inj ho
      have f20 : ac.tmps.getD 20 undef = .tuple #[.agg (B32 (bdig x)), .bool b] := valv hF hd 10 rfl rfl (by kernel_rfl)
      refine step_do ho' (wanted_free rfl) ?_
      unfold Oper.wp
      go_simp
      exact hK _ _ (.inr rfl) hF.j
    · have ho' := ho
      obtain rfl := Option.some.inj ho
      have f20 : ac.tmps.getD 20 undef = .tuple #[.agg (B32 (bdig x)), .bool b] := valv hF hd 10 rfl rfl (by kernel_rfl)
      refine step_do ho' (wanted_free rfl) ?_
      unfold Oper.wp
      go_simp
      exact hK _ _ (.inr rfl) hF.j
    · have ho' := ho
      obtain rfl := Option.some.inj ho
      have f2 : ac.tmps.getD 2 undef = .pointer (some ⟨bR, 0, none⟩) := slotv hF 13 hLi 2 (by kernel_rfl)
      have f21 : ac.tmps.getD 21 undef = .agg (B32 (bdig x)) := valv hF hd 11 rfl rfl (by kernel_rfl)
      refine step_do ho' (wanted_free rfl) ?_
      have hj := hF.j
      rw [hLi] at hj
      have hj : Kp [(b4, B32 (bdig yy), 22), (b1, B32 (bdig 1), 22), (bR, B32 fun _ => 0, 22), (bY, B32 (bdig y), 22)] w wc := hj
      have hj : Kp [(bR, B32 fun _ => 0, 22), (b4, B32 (bdig yy), 22), (b1, B32 (bdig 1), 22), (bY, B32 (bdig y), 22)] w wc := ((((hj.none.cons (hj.at bY (B32 (bdig y)) 22 (.tail _ (.tail _ (.tail _ (.head _)))))).cons (hj.at b1 (B32 (bdig 1)) 22 (.tail _ (.head _)))).cons (hj.at b4 (B32 (bdig yy)) 22 (.head _))).cons (hj.at bR (B32 fun _ => 0) 22 (.tail _ (.tail _ (.head _)))))
      refine wp_store_own 22 (.tmp 2) (.tmp 21) rfl bR (B32 (bdig x)) f2 f21 (hj.at bR (B32 fun _ => 0) 22 (.head _)) (B32_sizes _ _) (B32_info _) (B32_one _) rfl ?_
      have hj := Kp.set (A' := B32 (bdig x)) hj (by simp only [List.forall_mem_cons, List.not_mem_nil, false_implies, implies_true, and_true]; exact ⟨(Ne.symm ne_bR_b4.out), (Ne.symm ne_bR_b1.out), ne_bY_bR.out⟩) le_bR.out (B32_sizes _ _)
      exact hK undef _ (.inl rfl) ((((hj.none.cons (hj.at bY (B32 (bdig y)) 22 (.tail _ (.tail _ (.tail _ (.head _)))))).cons (hj.at bR (B32 (bdig x)) 22 (.head _))).cons (hj.at b1 (B32 (bdig 1)) 22 (.tail _ (.tail _ (.head _))))).cons (hj.at b4 (B32 (bdig yy)) 22 (.tail _ (.head _))))
    · have ho' := ho
      obtain rfl := Option.some.inj ho
      have f22 : ac.tmps.getD 22 undef = .bool b := valv hF hd 12 rfl rfl (by kernel_rfl)
      refine step_do ho' (wanted_free rfl) ?_
      unfold Oper.wp
      go_simp
      exact hK _ _ (.inr rfl) hF.j
    · cases ho
  intro L V6 hL hKq
  rw [hL 13 (by decide)] at hKq
  have hK : Kp [(b4, B32 (bdig yy), 22), (b1, B32 (bdig 1), 22), (bR, B32 (bdig x), 22), (bY, B32 (bdig y), 22)] w V6 := hKq
  clear hKq hL
  simp only [putAll, valBe, Act.put, List.setIfInBounds_toArray, List.set_cons_succ, List.set_cons_zero]
  go_wp2_with fail
  exact bodyPost_ret (results_own_tmp Tryd.results64 _ _ bR (B32 (bdig x)) _ (by rfl) (hK.at bR (B32 (bdig x)) 22 (.tail _ (.tail _ (.head _)))) Tryd.underlying22 rfl (B32_info _)) rfl ⟨rfl, hK.2⟩
theorem beside_at {y : Nat} {v : Value} (hy : Hid (y < R256)) (hv : rootBo (froot (usq y)) = v) (w : World) (hT : TC w) : Calls Tryd.prog 64 #[.agg (B32 (bdig y))] w fun r w' => r = .returned v ∧ Below w.heap.size w w' := by
  rw [← hv]; exact beside_nat hy w hT
end Go.Proofs.YtfkcphbbabaefaaDoor
