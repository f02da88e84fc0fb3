/- Of the texts G2: what the card of this claim reaches. -/
import Derived.Test.YtfkcphbbabaefaaDoorXB13
namespace Go.Proofs.YtfkcphbbabaefaaDoor
open Go Go.RowKit
set_option maxRecDepth 100000 in
set_option maxHeartbeats 6000000 in
theorem opposite_at {a c : Nat} (ha : Hid (a < R256)) (Hc : Hid (subp 0 a = c)) (w : World) (hT : TC w) : Calls Tryd.prog 65 #[.agg (B32 (bdig a))] w fun x w' => x = .returned (.agg (B32 (bdig c))) ∧ Below w.heap.size w w' := by
  have hz := (zero_of_info zeroB32).1
  go_enter Tryd.func65, Tryd.ntmps65
  go_upto_region 1 with fail
  have hK := ((Kp.nil w).alloc (B32 (bdig a)) 22).alloc (B32 fun _ => 0) 22
  rw [World.size_alloc] at hK
  generalize (w.alloc (.cells (B32 (bdig a)) 22)).alloc (.cells (B32 fun _ => 0) 22) = W at *
  obtain ⟨bA, HbA⟩ : ∃ b, Hid (w.heap.size = b) := ⟨_, rfl⟩
  obtain ⟨bR, HbR⟩ : ∃ b, Hid (bA + 1 = b) := ⟨_, rfl⟩
  have le_bA : Hid (w.heap.size ≤ bA) := by show _ ≤ _; have := HbA.out; omega
  have le_bR : Hid (w.heap.size ≤ bR) := by show _ ≤ _; have := HbA.out; have := HbR.out; omega
  have ne_bA_bR : Hid (bA ≠ bR) := by show _ ≠ _; have := HbR.out; omega
  rw [HbA.out, HbR.out] at hK ⊢
  go_wp2_with (refine wpList_load_own (by rfl) 22 (.tmp 1) (by rfl) bA (by rfl) (B32 (bdig a)) _ (hK.at bA (B32 (bdig a)) 22 (.tail _ (.head _))) Tryd.underlying22 (by rfl) (B32_info _) ?_)
  refine (csub0 ha.out Hc.out _ (TC.keep hT hK.2)).mono ?_
  rintro e V1 ⟨rfl, bw⟩
  have hK := hK.below bw
  clear bw
  go_wp2_with (refine wpList_store_own (op := { dst := none, op := _, type := _, pos := _, after := _, guard := _ }) rfl 22 (.tmp 2) (.tmp 5) rfl bR 0 (B32 (bdig c)) (by rfl) (by rfl) (hK.at bR (B32 fun _ => 0) 22 (.head _)) (B32_le _ _) (B32_info _) (B32_one _) (by rfl) ?_)
  exact bodyPost_ret (results_own Tryd.results65 _ _ bR (B32 (bdig c)) _ (by rfl) (own_setCells (hK.at bR (B32 fun _ => 0) 22 (.head _)) (B32_sizes _ _)) Tryd.underlying22 rfl (B32_info _)) rfl ⟨rfl, Below.setCells _ _ _ _ le_bR.out hK.2⟩
def factSu1 (bP bQ X1 Y1 Z1 X2 Y2 Z2 xx yy zz : Nat) : Nat → Value → Prop
  | 0, vq => vq = .pointer (some ⟨bP, 0, none⟩)
  | 1, vq => vq = .agg (B32 (bdig X1))
  | 2, vq => vq = .pointer (some ⟨bQ, 0, none⟩)
  | 3, vq => vq = .agg (B32 (bdig X2))
  | 4, vq => vq = .agg (B32 (bdig xx))
  | 5, vq => vq = .pointer (some ⟨bP, 32, none⟩)
  | 6, vq => vq = .agg (B32 (bdig Y1))
  | 7, vq => vq = .pointer (some ⟨bQ, 32, none⟩)
  | 8, vq => vq = .agg (B32 (bdig Y2))
  | 9, vq => vq = .agg (B32 (bdig yy))
  | 10, vq => vq = .pointer (some ⟨bP, 64, none⟩)
  | 11, vq => vq = .agg (B32 (bdig Z1))
  | 12, vq => vq = .pointer (some ⟨bQ, 64, none⟩)
  | 13, vq => vq = .agg (B32 (bdig Z2))
  | 14, vq => vq = .agg (B32 (bdig zz))
  | 15, vq => ∃ g, vq = .pointer (some ⟨g, 0, none⟩)
  | 16, vq => ∃ g, vq = .pointer (some ⟨g, 0, none⟩)
  | 17, vq => ∃ g, vq = .pointer (some ⟨g, 0, none⟩)
  | _, _ => True
def factSu2 (bP bQ X1 Y1 X2 Y2 m1 m2 cr : Nat) : Nat → Value → Prop
  | 0, vq => vq = .pointer (some ⟨bP, 0, none⟩)
  | 1, vq => vq = .agg (B32 (bdig X1))
  | 2, vq => vq = .pointer (some ⟨bQ, 32, none⟩)
  | 3, vq => vq = .agg (B32 (bdig Y2))
  | 4, vq => vq = .agg (B32 (bdig m1))
  | 5, vq => vq = .pointer (some ⟨bP, 32, none⟩)
  | 6, vq => vq = .agg (B32 (bdig Y1))
  | 7, vq => vq = .pointer (some ⟨bQ, 0, none⟩)
  | 8, vq => vq = .agg (B32 (bdig X2))
  | 9, vq => vq = .agg (B32 (bdig m2))
  | 10, vq => vq = .agg (B32 (bdig cr))
  | 11, vq => ∃ g, vq = .pointer (some ⟨g, 0, none⟩)
  | _, _ => True
def factSu3 (xx yy zz oz xy kq : Nat) : Nat → Value → Prop
  | 0, vq => vq = .agg (B32 (bdig zz))
  | 1, vq => vq = .agg (B32 (bdig zz))
  | 2, vq => vq = .agg (B32 (bdig oz))
  | 3, vq => vq = .agg (B32 (bdig dd))
  | 4, vq => vq = .agg (B32 (bdig xx))
  | 5, vq => vq = .agg (B32 (bdig yy))
  | 6, vq => vq = .agg (B32 (bdig xy))
  | 7, vq => vq = .agg (B32 (bdig kq))
  | 8, vq => ∃ g, vq = .pointer (some ⟨g, 0, none⟩)
  | 9, vq => ∃ g, vq = .pointer (some ⟨g, 0, none⟩)
  | _, _ => True
def factSu4 (oz kq ov un : Nat) : Nat → Value → Prop
  | 0, vq => vq = .agg (B32 (bdig oz))
  | 1, vq => vq = .agg (B32 (bdig kq))
  | 2, vq => vq = .agg (B32 (bdig ov))
  | 3, vq => vq = .agg (B32 (bdig oz))
  | 4, vq => vq = .agg (B32 (bdig kq))
  | 5, vq => vq = .agg (B32 (bdig un))
  | 6, vq => ∃ g, vq = .pointer (some ⟨g, 0, none⟩)
  | 7, vq => ∃ g, vq = .pointer (some ⟨g, 0, none⟩)
  | _, _ => True
def valSu5 (xx yy zz cr ov un au X yx yo Y Z : Nat) : Nat → Value
  | 0 => .agg (B32 (bdig zz))
  | 1 => .agg (B32 (bdig cr))
  | 2 => .agg (B32 (bdig un))
  | 3 => .agg (B32 (bdig au))
  | 4 => .agg (B32 (bdig X))
  | 5 => .agg (B32 (bdig zz))
  | 6 => .agg (B32 (bdig yy))
  | 7 => .agg (B32 (bdig xx))
  | 8 => .agg (B32 (bdig yx))
  | 9 => .agg (B32 (bdig ov))
  | 10 => .agg (B32 (bdig yo))
  | 11 => .agg (B32 (bdig Y))
  | 12 => .agg (B32 (bdig ov))
  | 13 => .agg (B32 (bdig un))
  | 14 => .agg (B32 (bdig Z))
  | 15 => .agg (QA ⟨X, Y, Z⟩)
  | _ => undef
set_option maxRecDepth 100000 in
set_option maxHeartbeats 6000000 in
theorem sum_nat {X1 Y1 Z1 X2 Y2 Z2 : Nat} (hX1 : Hid (X1 < R256)) (hY1 : Hid (Y1 < R256)) (hZ1 : Hid (Z1 < R256)) (hX2 : Hid (X2 < R256)) (hY2 : Hid (Y2 < R256)) (hZ2 : Hid (Z2 < R256)) (w : World) (hT : TC w) :
    Calls Tryd.prog 40 #[.agg (QA ⟨X1, Y1, Z1⟩), .agg (QA ⟨X2, Y2, Z2⟩)] w fun x w' => x = .returned (.agg (QA (sum3 ⟨X1, Y1, Z1⟩ ⟨X2, Y2, Z2⟩))) ∧ Below w.heap.size w w' := by
  have hz := (zero_of_info zeroB32).1
  have hzP := (zero_of_info zeroQA).1
  have hdd : Hid (dd < R256) := ddR
  obtain ⟨xx, Hxx⟩ : ∃ z, Hid (X1 * X2 % pp = z) := ⟨_, rfl⟩
  have hxx : Hid (xx < R256) := by show _ < _; rw [← Hxx.out]; exact lt_of_mod
  obtain ⟨yy, Hyy⟩ : ∃ z, Hid (Y1 * Y2 % pp = z) := ⟨_, rfl⟩
  have hyy : Hid (yy < R256) := by show _ < _; rw [← Hyy.out]; exact lt_of_mod
  obtain ⟨zz, Hzz⟩ : ∃ z, Hid (Z1 * Z2 % pp = z) := ⟨_, rfl⟩
  have hzz : Hid (zz < R256) := by show _ < _; rw [← Hzz.out]; exact lt_of_mod
  obtain ⟨m1, Hm1⟩ : ∃ z, Hid (X1 * Y2 % pp = z) := ⟨_, rfl⟩
  have hm1 : Hid (m1 < R256) := by show _ < _; rw [← Hm1.out]; exact lt_of_mod
  obtain ⟨m2, Hm2⟩ : ∃ z, Hid (Y1 * X2 % pp = z) := ⟨_, rfl⟩
  have hm2 : Hid (m2 < R256) := by show _ < _; rw [← Hm2.out]; exact lt_of_mod
  obtain ⟨cr, Hcr⟩ : ∃ z, Hid ((m1 + m2) % pp = z) := ⟨_, rfl⟩
  have hcr : Hid (cr < R256) := by show _ < _; rw [← Hcr.out]; exact lt_of_mod
  obtain ⟨oz, Hoz⟩ : ∃ z, Hid (zz * zz % pp = z) := ⟨_, rfl⟩
  have hoz : Hid (oz < R256) := by show _ < _; rw [← Hoz.out]; exact lt_of_mod
  obtain ⟨xy, Hxy⟩ : ∃ z, Hid (xx * yy % pp = z) := ⟨_, rfl⟩
  have hxy : Hid (xy < R256) := by show _ < _; rw [← Hxy.out]; exact lt_of_mod
  obtain ⟨kq, Hkq⟩ : ∃ z, Hid (dd * xy % pp = z) := ⟨_, rfl⟩
  have hkq : Hid (kq < R256) := by show _ < _; rw [← Hkq.out]; exact lt_of_mod
  obtain ⟨ov, Hov⟩ : ∃ z, Hid ((oz + kq) % pp = z) := ⟨_, rfl⟩
  have hov : Hid (ov < R256) := by show _ < _; rw [← Hov.out]; exact lt_of_mod
  obtain ⟨un, Hun⟩ : ∃ z, Hid (subp oz kq = z) := ⟨_, rfl⟩
  have hun : Hid (un < R256) := by show _ < _; rw [← Hun.out]; exact subp_R _ _
  obtain ⟨au, Hau⟩ : ∃ z, Hid (cr * un % pp = z) := ⟨_, rfl⟩
  have hau : Hid (au < R256) := by show _ < _; rw [← Hau.out]; exact lt_of_mod
  obtain ⟨X, HX⟩ : ∃ z, Hid (zz * au % pp = z) := ⟨_, rfl⟩
  have hX : Hid (X < R256) := by show _ < _; rw [← HX.out]; exact lt_of_mod
  obtain ⟨yx, Hyx⟩ : ∃ z, Hid ((yy + xx) % pp = z) := ⟨_, rfl⟩
  have hyx : Hid (yx < R256) := by show _ < _; rw [← Hyx.out]; exact lt_of_mod
  obtain ⟨yo, Hyo⟩ : ∃ z, Hid (yx * ov % pp = z) := ⟨_, rfl⟩
  have hyo : Hid (yo < R256) := by show _ < _; rw [← Hyo.out]; exact lt_of_mod
  obtain ⟨Y, HY⟩ : ∃ z, Hid (zz * yo % pp = z) := ⟨_, rfl⟩
  have hY : Hid (Y < R256) := by show _ < _; rw [← HY.out]; exact lt_of_mod
  obtain ⟨Z, HZ⟩ : ∃ z, Hid (ov * un % pp = z) := ⟨_, rfl⟩
  have hZ : Hid (Z < R256) := by show _ < _; rw [← HZ.out]; exact lt_of_mod
  have He3 : Hid (sum3 ⟨X1, Y1, Z1⟩ ⟨X2, Y2, Z2⟩ = ⟨X, Y, Z⟩) := by
    show _ = _
    rw [← HZ.out, ← HY.out, ← Hyo.out, ← Hyx.out, ← HX.out, ← Hau.out, ← Hun.out, ← Hov.out, ← Hkq.out, ← Hxy.out, ← Hoz.out, ← Hcr.out, ← Hm2.out, ← Hm1.out, ← Hzz.out, ← Hyy.out, ← Hxx.out]
    rfl
  rw [He3.out]
  go_enter Tryd.func40, Tryd.ntmps40
  go_upto_region 1 with fail
  have hK := (((Kp.nil w).alloc (QA ⟨X1, Y1, Z1⟩) 68).alloc (QA ⟨X2, Y2, Z2⟩) 68).alloc (QA ⟨0, 0, 0⟩) 68
  rw [World.size_alloc, World.size_alloc] at hK
  generalize ((w.alloc (.cells (QA ⟨X1, Y1, Z1⟩) 68)).alloc (.cells (QA ⟨X2, Y2, Z2⟩) 68)).alloc (.cells (QA ⟨0, 0, 0⟩) 68) = W at *
  obtain ⟨bP, HbP⟩ : ∃ b, Hid (w.heap.size = b) := ⟨_, rfl⟩
  obtain ⟨bQ, HbQ⟩ : ∃ b, Hid (bP + 1 = b) := ⟨_, rfl⟩
  obtain ⟨bR, HbR⟩ : ∃ b, Hid (bQ + 1 = b) := ⟨_, rfl⟩
  have le_bP : Hid (w.heap.size ≤ bP) := by show _ ≤ _; have := HbP.out; omega
  have le_bQ : Hid (w.heap.size ≤ bQ) := by show _ ≤ _; have := HbP.out; have := HbQ.out; omega
  have le_bR : Hid (w.heap.size ≤ bR) := by show _ ≤ _; have := HbP.out; have := HbQ.out; have := HbR.out; omega
  have ne_bP_bQ : Hid (bP ≠ bQ) := by show _ ≠ _; have := HbQ.out; omega
  have ne_bP_bR : Hid (bP ≠ bR) := by show _ ≠ _; have := HbQ.out; have := HbR.out; omega
  have ne_bQ_bR : Hid (bQ ≠ bR) := by show _ ≠ _; have := HbR.out; omega
  rw [HbP.out, HbQ.out, HbR.out] at hK ⊢
  obtain ⟨Af1, Af1_0, Af1_1, Af1_2⟩ : ∃ qf : Nat → Array Value, Hid (qf 0 = B32 (bdig xx)) ∧ Hid (qf 1 = B32 (bdig yy)) ∧ Hid (qf 2 = B32 (bdig zz)) := ⟨fun qi => ([B32 (bdig xx), B32 (bdig yy), B32 (bdig zz)] : List (Array Value)).getD qi #[], by show _ = _; simp, by show _ = _; simp, by show _ = _; simp⟩
  refine wp_region_told 69 (by kernel_rfl) (by kernel_rfl) (by rfl) (factSu1 bP bQ X1 Y1 Z1 X2 Y2 Z2 xx yy zz) (fun L vs => MkN 3 [(bR, QA ⟨0, 0, 0⟩, 68), (bQ, QA ⟨X2, Y2, Z2⟩, 68), (bP, QA ⟨X1, Y1, Z1⟩, 68)] w (fun _ => B32 fun _ => 0) (Af1) (fun _ => 22) (fun i => L (15 + i)) (fun i => L (18 + i)) (fun i => vs (15 + i))) (fun _ => MkN.drew hK (fun _ _ => rfl)) ?_ ?_
  · intro L vs ac wc i o hF hLi ho hd K hK
    rcases i with _ | _ | _ | _ | _ | _ | _ | _ | _ | _ | _ | _ | _ | _ | _ | _ | _ | _ | _ | _ | _ | i
    · have ho' := ho
      obtain rfl := Option.some.inj ho
      have f2 : ac.tmps.getD 2 undef = .pointer (some ⟨bP, 0, none⟩) := slott hF 0 hLi 2 (by kernel_rfl)
      refine step_do ho' (wanted_free rfl) ?_
      unfold Oper.wp
      go_simp
      exact hK _ _ (.inr rfl) (hF.j.congr (fun i hi => if_off (by decide) hi) (fun i hi => if_off (by decide) hi) (fun i hi => if_off (by decide) hi))
    · have ho' := ho
      obtain rfl := Option.some.inj ho
      have f13 : ac.tmps.getD 13 undef = .pointer (some ⟨bP, 0, none⟩) := (factt hF hd 0 rfl rfl (by kernel_rfl)).1.trans (factt hF hd 0 rfl rfl (by kernel_rfl)).2
      refine step_do ho' (wanted_free rfl) ?_
      exact wp_load_prt 0 (by decide) (.tmp 13) rfl bP f13 (hF.j.1.at bP (QA ⟨X1, Y1, Z1⟩) 68 (.tail _ (.tail _ (.head _)))) (hK _ _ (.inr rfl) (hF.j.congr (fun i hi => if_off (by decide) hi) (fun i hi => if_off (by decide) hi) (fun i hi => if_off (by decide) hi)))
    · have ho' := ho
      obtain rfl := Option.some.inj ho
      have f3 : ac.tmps.getD 3 undef = .pointer (some ⟨bQ, 0, none⟩) := slott hF 2 hLi 3 (by kernel_rfl)
      refine step_do ho' (wanted_free rfl) ?_
      unfold Oper.wp
      go_simp
      exact hK _ _ (.inr rfl) (hF.j.congr (fun i hi => if_off (by decide) hi) (fun i hi => if_off (by decide) hi) (fun i hi => if_off (by decide) hi))
    · have ho' := ho
      obtain rfl := Option.some.inj ho
      have f15 : ac.tmps.getD 15 undef = .pointer (some ⟨bQ, 0, none⟩) := (factt hF hd 2 rfl rfl (by kernel_rfl)).1.trans (factt hF hd 2 rfl rfl (by kernel_rfl)).2
      refine step_do ho' (wanted_free rfl) ?_
      exact wp_load_prt 0 (by decide) (.tmp 15) rfl bQ f15 (hF.j.1.at bQ (QA ⟨X2, Y2, Z2⟩) 68 (.tail _ (.head _))) (hK _ _ (.inr rfl) (hF.j.congr (fun i hi => if_off (by decide) hi) (fun i hi => if_off (by decide) hi) (fun i hi => if_off (by decide) hi)))
    · have ho' := ho
      obtain rfl := Option.some.inj ho
      have f14 : ac.tmps.getD 14 undef = .agg (B32 (bdig X1)) := (factt hF hd 1 rfl rfl (by kernel_rfl)).1.trans (factt hF hd 1 rfl rfl (by kernel_rfl)).2
      have f16 : ac.tmps.getD 16 undef = .agg (B32 (bdig X2)) := (factt hF hd 3 rfl rfl (by kernel_rfl)).1.trans (factt hF hd 3 rfl rfl (by kernel_rfl)).2
      refine step_do ho' (wanted_free rfl) ?_
      unfold Oper.wp
      go_simp
      refine (cmul hX1.out hX2.out Hxx.out _ (TC.keep hT hF.j.1.2)).mono ?_
      rintro e w' ⟨rfl, hB⟩
      exact hK _ _ (.inr rfl) ((hF.j.congr (fun i hi => if_off (by decide) hi) (fun i hi => if_off (by decide) hi) (fun i hi => if_off (by decide) hi)).below hB)
    · have ho' := ho
      obtain rfl := Option.some.inj ho
      have f2 : ac.tmps.getD 2 undef = .pointer (some ⟨bP, 0, none⟩) := slott hF 5 hLi 2 (by kernel_rfl)
      refine step_do ho' (wanted_free rfl) ?_
      unfold Oper.wp
      go_simp
      exact hK _ _ (.inr rfl) (hF.j.congr (fun i hi => if_off (by decide) hi) (fun i hi => if_off (by decide) hi) (fun i hi => if_off (by decide) hi))
    · have ho' := ho
      obtain rfl := Option.some.inj ho
      have f18 : ac.tmps.getD 18 undef = .pointer (some ⟨bP, 32, none⟩) := (factt hF hd 5 rfl rfl (by kernel_rfl)).1.trans (factt hF hd 5 rfl rfl (by kernel_rfl)).2
      refine step_do ho' (wanted_free rfl) ?_
      exact wp_load_prt 1 (by decide) (.tmp 18) rfl bP f18 (hF.j.1.at bP (QA ⟨X1, Y1, Z1⟩) 68 (.tail _ (.tail _ (.head _)))) (hK _ _ (.inr rfl) (hF.j.congr (fun i hi => if_off (by decide) hi) (fun i hi => if_off (by decide) hi) (fun i hi => if_off (by decide) hi)))
    · have ho' := ho
      obtain rfl := Option.some.inj ho
      have f3 : ac.tmps.getD 3 undef = .pointer (some ⟨bQ, 0, none⟩) := slott hF 7 hLi 3 (by kernel_rfl)
      refine step_do ho' (wanted_free rfl) ?_
      unfold Oper.wp
      go_simp
      exact hK _ _ (.inr rfl) (hF.j.congr (fun i hi => if_off (by decide) hi) (fun i hi => if_off (by decide) hi) (fun i hi => if_off (by decide) hi))
    · have ho' := ho
      obtain rfl := Option.some.inj ho
      have f20 : ac.tmps.getD 20 undef = .pointer (some ⟨bQ, 32, none⟩) := (factt hF hd 7 rfl rfl (by kernel_rfl)).1.trans (factt hF hd 7 rfl rfl (by kernel_rfl)).2
      refine step_do ho' (wanted_free rfl) ?_
      exact wp_load_prt 1 (by decide) (.tmp 20) rfl bQ f20 (hF.j.1.at bQ (QA ⟨X2, Y2, Z2⟩) 68 (.tail _ (.head _))) (hK _ _ (.inr rfl) (hF.j.congr (fun i hi => if_off (by decide) hi) (fun i hi => if_off (by decide) hi) (fun i hi => if_off (by decide) hi)))
    · have ho' := ho
      obtain rfl := Option.some.inj ho
      have f19 : ac.tmps.getD 19 undef = .agg (B32 (bdig Y1)) := (factt hF hd 6 rfl rfl (by kernel_rfl)).1.trans (factt hF hd 6 rfl rfl (by kernel_rfl)).2
      have f21 : ac.tmps.getD 21 undef = .agg (B32 (bdig Y2)) := (factt hF hd 8 rfl rfl (by kernel_rfl)).1.trans (factt hF hd 8 rfl rfl (by kernel_rfl)).2
      refine step_do ho' (wanted_free rfl) ?_
      unfold Oper.wp
      go_simp
      refine (cmul hY1.out hY2.out Hyy.out _ (TC.keep hT hF.j.1.2)).mono ?_
      rintro e w' ⟨rfl, hB⟩
      exact hK _ _ (.inr rfl) ((hF.j.congr (fun i hi => if_off (by decide) hi) (fun i hi => if_off (by decide) hi) (fun i hi => if_off (by decide) hi)).below hB)
    · have ho' := ho
      obtain rfl := Option.some.inj ho
      have f2 : ac.tmps.getD 2 undef = .pointer (some ⟨bP, 0, none⟩) := slott hF 10 hLi 2 (by kernel_rfl)
      refine step_do ho' (wanted_free rfl) ?_
      unfold Oper.wp
      go_simp
      exact hK _ _ (.inr rfl) (hF.j.congr (fun i hi => if_off (by decide) hi) (fun i hi => if_off (by decide) hi) (fun i hi => if_off (by decide) hi))
    · have ho' := ho
      obtain rfl := Option.some.inj ho
      have f23 : ac.tmps.getD 23 undef = .pointer (some ⟨bP, 64, none⟩) := (factt hF hd 10 rfl rfl (by kernel_rfl)).1.trans (factt hF hd 10 rfl rfl (by kernel_rfl)).2
      refine step_do ho' (wanted_free rfl) ?_
      exact wp_load_prt 2 (by decide) (.tmp 23) rfl bP f23 (hF.j.1.at bP (QA ⟨X1, Y1, Z1⟩) 68 (.tail _ (.tail _ (.head _)))) (hK _ _ (.inr rfl) (hF.j.congr (fun i hi => if_off (by decide) hi) (fun i hi => if_off (by decide) hi) (fun i hi => if_off (by decide) hi)))
    · have ho' := ho
      obtain rfl := Option.some.inj ho
      have f3 : ac.tmps.getD 3 undef = .pointer (some ⟨bQ, 0, none⟩) := slott hF 12 hLi 3 (by kernel_rfl)
      refine step_do ho' (wanted_free rfl) ?_
      unfold Oper.wp
      go_simp
      exact hK _ _ (.inr rfl) (hF.j.congr (fun i hi => if_off (by decide) hi) (fun i hi => if_off (by decide) hi) (fun i hi => if_off (by decide) hi))
    · have ho' := ho
      obtain rfl := Option.some.inj ho
      have f25 : ac.tmps.getD 25 undef = .pointer (some ⟨bQ, 64, none⟩) := (factt hF hd 12 rfl rfl (by kernel_rfl)).1.trans (factt hF hd 12 rfl rfl (by kernel_rfl)).2
      refine step_do ho' (wanted_free rfl) ?_
      exact wp_load_prt 2 (by decide) (.tmp 25) rfl bQ f25 (hF.j.1.at bQ (QA ⟨X2, Y2, Z2⟩) 68 (.tail _ (.head _))) (hK _ _ (.inr rfl) (hF.j.congr (fun i hi => if_off (by decide) hi) (fun i hi => if_off (by decide) hi) (fun i hi => if_off (by decide) hi)))
    · have ho' := ho
      obtain rfl := Option.some.inj ho
      have f24 : ac.tmps.getD 24 undef = .agg (B32 (bdig Z1)) := (factt hF hd 11 rfl rfl (by kernel_rfl)).1.trans (factt hF hd 11 rfl rfl (by kernel_rfl)).2
      have f26 : ac.tmps.getD 26 undef = .agg (B32 (bdig Z2)) := (factt hF hd 13 rfl rfl (by kernel_rfl)).1.trans (factt hF hd 13 rfl rfl (by kernel_rfl)).2
      refine step_do ho' (wanted_free rfl) ?_
      unfold Oper.wp
      go_simp
      refine (cmul hZ1.out hZ2.out Hzz.out _ (TC.keep hT hF.j.1.2)).mono ?_
      rintro e w' ⟨rfl, hB⟩
      exact hK _ _ (.inr rfl) ((hF.j.congr (fun i hi => if_off (by decide) hi) (fun i hi => if_off (by decide) hi) (fun i hi => if_off (by decide) hi)).below hB)
    · have ho' := ho
      obtain rfl := Option.some.inj ho
      refine step_do ho' (wanted_free rfl) ?_
      have hs := notyett hF 15 hLi 18 rfl (by kernel_rfl)
      unfold Oper.wp
      go_simp
      exact hK _ _ (.inr ⟨_, rfl⟩) (hF.j.alloc 0 (fun i _ hne => if_oth (k := 0) rfl hne) (fun i hi => if_off (by decide) hi) (fun i _ hne => if_oth (k := 0) rfl hne) rfl hs)
    · have ho' := ho
      obtain rfl := Option.some.inj ho
      refine step_do ho' (wanted_free rfl) ?_
      have hs := notyett hF 16 hLi 19 rfl (by kernel_rfl)
      unfold Oper.wp
      go_simp
      exact hK _ _ (.inr ⟨_, rfl⟩) (hF.j.alloc 1 (fun i _ hne => if_oth (k := 1) rfl hne) (fun i hi => if_off (by decide) hi) (fun i _ hne => if_oth (k := 1) rfl hne) rfl hs)
    · have ho' := ho
      obtain rfl := Option.some.inj ho
      refine step_do ho' (wanted_free rfl) ?_
      have hs := notyett hF 17 hLi 20 rfl (by kernel_rfl)
      unfold Oper.wp
      go_simp
      exact hK _ _ (.inr ⟨_, rfl⟩) (hF.j.alloc 2 (fun i _ hne => if_oth (k := 2) rfl hne) (fun i hi => if_off (by decide) hi) (fun i _ hne => if_oth (k := 2) rfl hne) rfl hs)
    · have ho' := ho
      obtain rfl := Option.some.inj ho
      have f17 : ac.tmps.getD 17 undef = .agg (B32 (bdig xx)) := (factt hF hd 4 rfl rfl (by kernel_rfl)).1.trans (factt hF hd 4 rfl rfl (by kernel_rfl)).2
      refine step_do ho' (wanted_free rfl) ?_
      obtain ⟨fg, gq, hg⟩ := factt hF hd 15 rfl rfl (by kernel_rfl)
      have hm := dep hd 15 (by kernel_rfl)
      have hj := hF.j
      rw [hg] at fg
      have hj2 := hj.at (k := 0) (by decide) hm hg hLi
      refine wp_store_own 22 (.tmp 5) (.tmp 17) rfl gq (B32 (bdig xx)) fg f17 hj2.2.2 (B32_sizes _ _) (B32_info _) (B32_one _) rfl ?_
      exact hK undef _ (.inl rfl) (hj.storeA (k := 0) Af1_0.out (by decide) hm hg hLi (B32_sizes _ _) (fun i hi => if_off (by decide) hi) (fun i _ hne => if_oth (k := 0) rfl hne) (fun i hi => if_off (by decide) hi) rfl)
    · have ho' := ho
      obtain rfl := Option.some.inj ho
      have f22 : ac.tmps.getD 22 undef = .agg (B32 (bdig yy)) := (factt hF hd 9 rfl rfl (by kernel_rfl)).1.trans (factt hF hd 9 rfl rfl (by kernel_rfl)).2
      refine step_do ho' (wanted_free rfl) ?_
      obtain ⟨fg, gq, hg⟩ := factt hF hd 16 rfl rfl (by kernel_rfl)
      have hm := dep hd 16 (by kernel_rfl)
      have hj := hF.j
      rw [hg] at fg
      have hj2 := hj.at (k := 1) (by decide) hm hg hLi
      refine wp_store_own 22 (.tmp 6) (.tmp 22) rfl gq (B32 (bdig yy)) fg f22 hj2.2.2 (B32_sizes _ _) (B32_info _) (B32_one _) rfl ?_
      exact hK undef _ (.inl rfl) (hj.storeA (k := 1) Af1_1.out (by decide) hm hg hLi (B32_sizes _ _) (fun i hi => if_off (by decide) hi) (fun i _ hne => if_oth (k := 1) rfl hne) (fun i hi => if_off (by decide) hi) rfl)
    · have ho' := ho
      obtain rfl := Option.some.inj ho
      have f27 : ac.tmps.getD 27 undef = .agg (B32 (bdig zz)) := (factt hF hd 14 rfl rfl (by kernel_rfl)).1.trans (factt hF hd 14 rfl rfl (by kernel_rfl)).2
      refine step_do ho' (wanted_free rfl) ?_
      obtain ⟨fg, gq, hg⟩ := factt hF hd 17 rfl rfl (by kernel_rfl)
      have hm := dep hd 17 (by kernel_rfl)
      have hj := hF.j
      rw [hg] at fg
      have hj2 := hj.at (k := 2) (by decide) hm hg hLi
      refine wp_store_own 22 (.tmp 7) (.tmp 27) rfl gq (B32 (bdig zz)) fg f27 hj2.2.2 (B32_sizes _ _) (B32_info _) (B32_one _) rfl ?_
      exact hK undef _ (.inl rfl) (hj.storeA (k := 2) Af1_2.out (by decide) hm hg hLi (B32_sizes _ _) (fun i hi => if_off (by decide) hi) (fun i _ hne => if_oth (k := 2) rfl hne) (fun i hi => if_off (by decide) hi) rfl)
    · cases ho
  intro L vs V2 hL hJ hf
  obtain ⟨g3, hgg3⟩ := hf 15 _ _ rfl rfl
  obtain ⟨le0, apg3, owng3⟩ := hJ.gotA (k := 0) Af1_0.out (by decide) (hL 15 (by decide)) hgg3 (hL 18 (by decide))
  have le_g3 := show Hid _ from le0
  clear le0
  obtain ⟨g4, hgg4⟩ := hf 16 _ _ rfl rfl
  obtain ⟨le0, apg4, owng4⟩ := hJ.gotA (k := 1) Af1_1.out (by decide) (hL 16 (by decide)) hgg4 (hL 19 (by decide))
  have le_g4 := show Hid _ from le0
  clear le0
  obtain ⟨g5, hgg5⟩ := hf 17 _ _ rfl rfl
  obtain ⟨le0, apg5, owng5⟩ := hJ.gotA (k := 2) Af1_2.out (by decide) (hL 17 (by decide)) hgg5 (hL 20 (by decide))
  have le_g5 := show Hid _ from le0
  clear le0
  have ne_g3_g4 : Hid (g3 ≠ g4) := hJ.apart (i := 0) (j := 1) (by decide) (by decide) (by decide) (hL 15 (by decide)) (hL 16 (by decide)) hgg3 hgg4
  have ne_g3_g5 : Hid (g3 ≠ g5) := hJ.apart (i := 0) (j := 2) (by decide) (by decide) (by decide) (hL 15 (by decide)) (hL 17 (by decide)) hgg3 hgg5
  have ne_g4_g5 : Hid (g4 ≠ g5) := hJ.apart (i := 1) (j := 2) (by decide) (by decide) (by decide) (hL 16 (by decide)) (hL 17 (by decide)) hgg4 hgg5
  have ne_bR_g3 : Hid (bR ≠ g3) := apg3 (bR, QA ⟨0, 0, 0⟩, 68) (.head _)
  have ne_bR_g4 : Hid (bR ≠ g4) := apg4 (bR, QA ⟨0, 0, 0⟩, 68) (.head _)
  have ne_bR_g5 : Hid (bR ≠ g5) := apg5 (bR, QA ⟨0, 0, 0⟩, 68) (.head _)
  have hK : Kp [(g5, B32 (bdig zz), 22), (g4, B32 (bdig yy), 22), (g3, B32 (bdig xx), 22), (bR, QA ⟨0, 0, 0⟩, 68), (bQ, QA ⟨X2, Y2, Z2⟩, 68), (bP, QA ⟨X1, Y1, Z1⟩, 68)] w V2 := (((hJ.1.cons owng3).cons owng4).cons owng5)
  have e0 : vs 0 = _ := hf 0 _ _ rfl rfl
  have e1 : vs 1 = _ := hf 1 _ _ rfl rfl
  have e2 : vs 2 = _ := hf 2 _ _ rfl rfl
  have e3 : vs 3 = _ := hf 3 _ _ rfl rfl
  have e4 : vs 4 = _ := hf 4 _ _ rfl rfl
  have e5 : vs 5 = _ := hf 5 _ _ rfl rfl
  have e6 : vs 6 = _ := hf 6 _ _ rfl rfl
  have e7 : vs 7 = _ := hf 7 _ _ rfl rfl
  have e8 : vs 8 = _ := hf 8 _ _ rfl rfl
  have e9 : vs 9 = _ := hf 9 _ _ rfl rfl
  have e10 : vs 10 = _ := hf 10 _ _ rfl rfl
  have e11 : vs 11 = _ := hf 11 _ _ rfl rfl
  have e12 : vs 12 = _ := hf 12 _ _ rfl rfl
  have e13 : vs 13 = _ := hf 13 _ _ rfl rfl
  have e14 : vs 14 = _ := hf 14 _ _ rfl rfl
  simp only [putAll, Nat.zero_add, Nat.reduceAdd, e0, e1, e2, e3, e4, e5, e6, e7, e8, e9, e10, e11, e12, e13, e14, hgg3, hgg4, hgg5, Act.put, List.setIfInBounds_toArray, List.set_cons_succ, List.set_cons_zero]
  clear hJ hf hL e0 e1 e2 e3 e4 e5 e6 e7 e8 e9 e10 e11 e12 e13 e14 hgg3 hgg4 hgg5 apg3 apg4 apg5 owng3 owng4 owng5
  go_upto_region 2 with fail
  refine wp_region_told 69 (by kernel_rfl) (by kernel_rfl) (by rfl) (factSu2 bP bQ X1 Y1 X2 Y2 m1 m2 cr) (fun L vs => MkN 1 [(g5, B32 (bdig zz), 22), (g4, B32 (bdig yy), 22), (g3, B32 (bdig xx), 22), (bR, QA ⟨0, 0, 0⟩, 68), (bQ, QA ⟨X2, Y2, Z2⟩, 68), (bP, QA ⟨X1, Y1, Z1⟩, 68)] w (fun _ => B32 fun _ => 0) (fun _ => B32 (bdig cr)) (fun _ => 22) (fun i => L (11 + i)) (fun i => L (12 + i)) (fun i => vs (11 + i))) (fun _ => MkN.drew hK (fun _ _ => rfl)) ?_ ?_
  · intro L vs ac wc i o hF hLi ho hd K hK
    rcases i with _ | _ | _ | _ | _ | _ | _ | _ | _ | _ | _ | _ | _ | i
    · have ho' := ho
      obtain rfl := Option.some.inj ho
      have f2 : ac.tmps.getD 2 undef = .pointer (some ⟨bP, 0, none⟩) := slott hF 0 hLi 2 (by kernel_rfl)
      refine step_do ho' (wanted_free rfl) ?_
      unfold Oper.wp
      go_simp
      exact hK _ _ (.inr rfl) (hF.j.congr (fun i hi => if_off (by decide) hi) (fun i hi => if_off (by decide) hi) (fun i hi => if_off (by decide) hi))
    · have ho' := ho
      obtain rfl := Option.some.inj ho
      have f28 : ac.tmps.getD 28 undef = .pointer (some ⟨bP, 0, none⟩) := (factt hF hd 0 rfl rfl (by kernel_rfl)).1.trans (factt hF hd 0 rfl rfl (by kernel_rfl)).2
      refine step_do ho' (wanted_free rfl) ?_
      exact wp_load_prt 0 (by decide) (.tmp 28) rfl bP f28 (hF.j.1.at bP (QA ⟨X1, Y1, Z1⟩) 68 (.tail _ (.tail _ (.tail _ (.tail _ (.tail _ (.head _))))))) (hK _ _ (.inr rfl) (hF.j.congr (fun i hi => if_off (by decide) hi) (fun i hi => if_off (by decide) hi) (fun i hi => if_off (by decide) hi)))
    · have ho' := ho
      obtain rfl := Option.some.inj ho
      have f3 : ac.tmps.getD 3 undef = .pointer (some ⟨bQ, 0, none⟩) := slott hF 2 hLi 3 (by kernel_rfl)
      refine step_do ho' (wanted_free rfl) ?_
      unfold Oper.wp
      go_simp
      exact hK _ _ (.inr rfl) (hF.j.congr (fun i hi => if_off (by decide) hi) (fun i hi => if_off (by decide) hi) (fun i hi => if_off (by decide) hi))
    · have ho' := ho
      obtain rfl := Option.some.inj ho
      have f30 : ac.tmps.getD 30 undef = .pointer (some ⟨bQ, 32, none⟩) := (factt hF hd 2 rfl rfl (by kernel_rfl)).1.trans (factt hF hd 2 rfl rfl (by kernel_rfl)).2
      refine step_do ho' (wanted_free rfl) ?_
      exact wp_load_prt 1 (by decide) (.tmp 30) rfl bQ f30 (hF.j.1.at bQ (QA ⟨X2, Y2, Z2⟩) 68 (.tail _ (.tail _ (.tail _ (.tail _ (.head _)))))) (hK _ _ (.inr rfl) (hF.j.congr (fun i hi => if_off (by decide) hi) (fun i hi => if_off (by decide) hi) (fun i hi => if_off (by decide) hi)))
    · have ho' := ho
      obtain rfl := Option.some.inj ho
      have f29 : ac.tmps.getD 29 undef = .agg (B32 (bdig X1)) := (factt hF hd 1 rfl rfl (by kernel_rfl)).1.trans (factt hF hd 1 rfl rfl (by kernel_rfl)).2
      have f31 : ac.tmps.getD 31 undef = .agg (B32 (bdig Y2)) := (factt hF hd 3 rfl rfl (by kernel_rfl)).1.trans (factt hF hd 3 rfl rfl (by kernel_rfl)).2
      refine step_do ho' (wanted_free rfl) ?_
      unfold Oper.wp
      go_simp
      refine (cmul hX1.out hY2.out Hm1.out _ (TC.keep hT hF.j.1.2)).mono ?_
      rintro e w' ⟨rfl, hB⟩
      exact hK _ _ (.inr rfl) ((hF.j.congr (fun i hi => if_off (by decide) hi) (fun i hi => if_off (by decide) hi) (fun i hi => if_off (by decide) hi)).below hB)
    · have ho' := ho
      obtain rfl := Option.some.inj ho
      have f2 : ac.tmps.getD 2 undef = .pointer (some ⟨bP, 0, none⟩) := slott hF 5 hLi 2 (by kernel_rfl)
      refine step_do ho' (wanted_free rfl) ?_
      unfold Oper.wp
      go_simp
      exact hK _ _ (.inr rfl) (hF.j.congr (fun i hi => if_off (by decide) hi) (fun i hi => if_off (by decide) hi) (fun i hi => if_off (by decide) hi))
    · have ho' := ho
      obtain rfl := Option.some.inj ho
      have f33 : ac.tmps.getD 33 undef = .pointer (some ⟨bP, 32, none⟩) := (factt hF hd 5 rfl rfl (by kernel_rfl)).1.trans (factt hF hd 5 rfl rfl (by kernel_rfl)).2
      refine step_do ho' (wanted_free rfl) ?_
      exact wp_load_prt 1 (by decide) (.tmp 33) rfl bP f33 (hF.j.1.at bP (QA ⟨X1, Y1, Z1⟩) 68 (.tail _ (.tail _ (.tail _ (.tail _ (.tail _ (.head _))))))) (hK _ _ (.inr rfl) (hF.j.congr (fun i hi => if_off (by decide) hi) (fun i hi => if_off (by decide) hi) (fun i hi => if_off (by decide) hi)))
    · have ho' := ho
      obtain rfl := Option.some.inj ho
      have f3 : ac.tmps.getD 3 undef = .pointer (some ⟨bQ, 0, none⟩) := slott hF 7 hLi 3 (by kernel_rfl)
      refine step_do ho' (wanted_free rfl) ?_
      unfold Oper.wp
      go_simp
      exact hK _ _ (.inr rfl) (hF.j.congr (fun i hi => if_off (by decide) hi) (fun i hi => if_off (by decide) hi) (fun i hi => if_off (by decide) hi))
    · have ho' := ho
      obtain rfl := Option.some.inj ho
      have f35 : ac.tmps.getD 35 undef = .pointer (some ⟨bQ, 0, none⟩) := (factt hF hd 7 rfl rfl (by kernel_rfl)).1.trans (factt hF hd 7 rfl rfl (by kernel_rfl)).2
      refine step_do ho' (wanted_free rfl) ?_
      exact wp_load_prt 0 (by decide) (.tmp 35) rfl bQ f35 (hF.j.1.at bQ (QA ⟨X2, Y2, Z2⟩) 68 (.tail _ (.tail _ (.tail _ (.tail _ (.head _)))))) (hK _ _ (.inr rfl) (hF.j.congr (fun i hi => if_off (by decide) hi) (fun i hi => if_off (by decide) hi) (fun i hi => if_off (by decide) hi)))
    · have ho' := ho
      obtain rfl := Option.some.inj ho
      have f34 : ac.tmps.getD 34 undef = .agg (B32 (bdig Y1)) := (factt hF hd 6 rfl rfl (by kernel_rfl)).1.trans (factt hF hd 6 rfl rfl (by kernel_rfl)).2
      have f36 : ac.tmps.getD 36 undef = .agg (B32 (bdig X2)) := (factt hF hd 8 rfl rfl (by kernel_rfl)).1.trans (factt hF hd 8 rfl rfl (by kernel_rfl)).2
      refine step_do ho' (wanted_free rfl) ?_
      unfold Oper.wp
      go_simp
      refine (cmul hY1.out hX2.out Hm2.out _ (TC.keep hT hF.j.1.2)).mono ?_
      rintro e w' ⟨rfl, hB⟩
      exact hK _ _ (.inr rfl) ((hF.j.congr (fun i hi => if_off (by decide) hi) (fun i hi => if_off (by decide) hi) (fun i hi => if_off (by decide) hi)).below hB)
    · have ho' := ho
      obtain rfl := Option.some.inj ho
      have f32 : ac.tmps.getD 32 undef = .agg (B32 (bdig m1)) := (factt hF hd 4 rfl rfl (by kernel_rfl)).1.trans (factt hF hd 4 rfl rfl (by kernel_rfl)).2
      have f37 : ac.tmps.getD 37 undef = .agg (B32 (bdig m2)) := (factt hF hd 9 rfl rfl (by kernel_rfl)).1.trans (factt hF hd 9 rfl rfl (by kernel_rfl)).2
      refine step_do ho' (wanted_free rfl) ?_
      unfold Oper.wp
      go_simp
      refine (cadd hm1.out hm2.out Hcr.out _ (TC.keep hT hF.j.1.2)).mono ?_
      rintro e w' ⟨rfl, hB⟩
      exact hK _ _ (.inr rfl) ((hF.j.congr (fun i hi => if_off (by decide) hi) (fun i hi => if_off (by decide) hi) (fun i hi => if_off (by decide) hi)).below hB)
    · have ho' := ho
      obtain rfl := Option.some.inj ho
      refine step_do ho' (wanted_free rfl) ?_
      have hs := notyett hF 11 hLi 12 rfl (by kernel_rfl)
      unfold Oper.wp
      go_simp
      exact hK _ _ (.inr ⟨_, rfl⟩) (hF.j.alloc 0 (fun i _ hne => if_oth (k := 0) rfl hne) (fun i hi => if_off (by decide) hi) (fun i _ hne => if_oth (k := 0) rfl hne) rfl hs)
    · have ho' := ho
      obtain rfl := Option.some.inj ho
      have f38 : ac.tmps.getD 38 undef = .agg (B32 (bdig cr)) := (factt hF hd 10 rfl rfl (by kernel_rfl)).1.trans (factt hF hd 10 rfl rfl (by kernel_rfl)).2
      refine step_do ho' (wanted_free rfl) ?_
      obtain ⟨fg, gq, hg⟩ := factt hF hd 11 rfl rfl (by kernel_rfl)
      have hm := dep hd 11 (by kernel_rfl)
      have hj := hF.j
      rw [hg] at fg
      have hj2 := hj.at (k := 0) (by decide) hm hg hLi
      refine wp_store_own 22 (.tmp 8) (.tmp 38) rfl gq (B32 (bdig cr)) fg f38 hj2.2.2 (B32_sizes _ _) (B32_info _) (B32_one _) rfl ?_
      exact hK undef _ (.inl rfl) (hj.store (k := 0) (by decide) hm hg hLi (B32_sizes _ _) (fun i hi => if_off (by decide) hi) (fun i _ hne => if_oth (k := 0) rfl hne) (fun i hi => if_off (by decide) hi) rfl)
    · cases ho
  intro L vs V6 hL hJ hf
  obtain ⟨g7, hgg7⟩ := hf 11 _ _ rfl rfl
  obtain ⟨le0, apg7, owng7⟩ := hJ.got (k := 0) (by decide) (hL 11 (by decide)) hgg7 (hL 12 (by decide))
  have le_g7 := show Hid _ from le0
  clear le0
  have ne_bR_g7 : Hid (bR ≠ g7) := apg7 (bR, QA ⟨0, 0, 0⟩, 68) (.tail _ (.tail _ (.tail _ (.head _))))
  have hK : Kp [(g7, B32 (bdig cr), 22), (g5, B32 (bdig zz), 22), (g4, B32 (bdig yy), 22), (g3, B32 (bdig xx), 22), (bR, QA ⟨0, 0, 0⟩, 68), (bQ, QA ⟨X2, Y2, Z2⟩, 68), (bP, QA ⟨X1, Y1, Z1⟩, 68)] w V6 := (hJ.1.cons owng7)
  have e0 : vs 0 = _ := hf 0 _ _ rfl rfl
  have e1 : vs 1 = _ := hf 1 _ _ rfl rfl
  have e2 : vs 2 = _ := hf 2 _ _ rfl rfl
  have e3 : vs 3 = _ := hf 3 _ _ rfl rfl
  have e4 : vs 4 = _ := hf 4 _ _ rfl rfl
  have e5 : vs 5 = _ := hf 5 _ _ rfl rfl
  have e6 : vs 6 = _ := hf 6 _ _ rfl rfl
  have e7 : vs 7 = _ := hf 7 _ _ rfl rfl
  have e8 : vs 8 = _ := hf 8 _ _ rfl rfl
  have e9 : vs 9 = _ := hf 9 _ _ rfl rfl
  have e10 : vs 10 = _ := hf 10 _ _ rfl rfl
  simp only [putAll, Nat.zero_add, Nat.reduceAdd, e0, e1, e2, e3, e4, e5, e6, e7, e8, e9, e10, hgg7, Act.put, List.setIfInBounds_toArray, List.set_cons_succ, List.set_cons_zero]
  clear hJ hf hL e0 e1 e2 e3 e4 e5 e6 e7 e8 e9 e10 hgg7 apg7 owng7
  go_upto_region 3 with fail
  have hK : Kp [(g7, B32 (bdig cr), 22), (g5, B32 (bdig zz), 22), (g4, B32 (bdig yy), 22), (g3, B32 (bdig xx), 22), (bR, QA ⟨0, 0, 0⟩, 68)] w V6 := (((((hK.none.cons (hK.at bR (QA ⟨0, 0, 0⟩) 68 (.tail _ (.tail _ (.tail _ (.tail _ (.head _))))))).cons (hK.at g3 (B32 (bdig xx)) 22 (.tail _ (.tail _ (.tail _ (.head _)))))).cons (hK.at g4 (B32 (bdig yy)) 22 (.tail _ (.tail _ (.head _))))).cons (hK.at g5 (B32 (bdig zz)) 22 (.tail _ (.head _)))).cons (hK.at g7 (B32 (bdig cr)) 22 (.head _)))
  obtain ⟨Af8, Af8_0, Af8_1⟩ : ∃ qf : Nat → Array Value, Hid (qf 0 = B32 (bdig oz)) ∧ Hid (qf 1 = B32 (bdig kq)) := ⟨fun qi => ([B32 (bdig oz), B32 (bdig kq)] : List (Array Value)).getD qi #[], by show _ = _; simp, by show _ = _; simp⟩
  refine wp_region_told 69 (by kernel_rfl) (by kernel_rfl) (by rfl) (factSu3 xx yy zz oz xy kq) (fun L vs => MkN 2 [(g7, B32 (bdig cr), 22), (g5, B32 (bdig zz), 22), (g4, B32 (bdig yy), 22), (g3, B32 (bdig xx), 22), (bR, QA ⟨0, 0, 0⟩, 68)] w (fun _ => B32 fun _ => 0) (Af8) (fun _ => 22) (fun i => L (8 + i)) (fun i => L (10 + i)) (fun i => vs (8 + i))) (fun _ => MkN.drew hK (fun _ _ => rfl)) ?_ ?_
  · intro L vs ac wc i o hF hLi ho hd K hK
    rcases i with _ | _ | _ | _ | _ | _ | _ | _ | _ | _ | _ | _ | i
    · have ho' := ho
      obtain rfl := Option.some.inj ho
      have f7 : ac.tmps.getD 7 undef = .pointer (some ⟨g5, 0, none⟩) := slott hF 0 hLi 7 (by kernel_rfl)
      refine step_do ho' (wanted_free rfl) ?_
      exact wp_load_own 22 (.tmp 7) rfl g5 f7 (B32 (bdig zz)) _ 22 (hF.j.1.at g5 (B32 (bdig zz)) 22 (.tail _ (.head _))) Tryd.underlying22 rfl (B32_info _) (hK _ _ (.inr rfl) (hF.j.congr (fun i hi => if_off (by decide) hi) (fun i hi => if_off (by decide) hi) (fun i hi => if_off (by decide) hi)))
    · have ho' := ho
      obtain rfl := Option.some.inj ho
      have f7 : ac.tmps.getD 7 undef = .pointer (some ⟨g5, 0, none⟩) := slott hF 1 hLi 7 (by kernel_rfl)
      refine step_do ho' (wanted_free rfl) ?_
      exact wp_load_own 22 (.tmp 7) rfl g5 f7 (B32 (bdig zz)) _ 22 (hF.j.1.at g5 (B32 (bdig zz)) 22 (.tail _ (.head _))) Tryd.underlying22 rfl (B32_info _) (hK _ _ (.inr rfl) (hF.j.congr (fun i hi => if_off (by decide) hi) (fun i hi => if_off (by decide) hi) (fun i hi => if_off (by decide) hi)))
    · have ho' := ho
      obtain rfl := Option.some.inj ho
      have f39 : ac.tmps.getD 39 undef = .agg (B32 (bdig zz)) := (factt hF hd 0 rfl rfl (by kernel_rfl)).1.trans (factt hF hd 0 rfl rfl (by kernel_rfl)).2
      have f40 : ac.tmps.getD 40 undef = .agg (B32 (bdig zz)) := (factt hF hd 1 rfl rfl (by kernel_rfl)).1.trans (factt hF hd 1 rfl rfl (by kernel_rfl)).2
      refine step_do ho' (wanted_free rfl) ?_
      unfold Oper.wp
      go_simp
      refine (cmul hzz.out hzz.out Hoz.out _ (TC.keep hT hF.j.1.2)).mono ?_
      rintro e w' ⟨rfl, hB⟩
      exact hK _ _ (.inr rfl) ((hF.j.congr (fun i hi => if_off (by decide) hi) (fun i hi => if_off (by decide) hi) (fun i hi => if_off (by decide) hi)).below hB)
    · have ho' := ho
      obtain rfl := Option.some.inj ho
      refine step_do ho' (wanted_free rfl) ?_
      exact wp_load_d rfl (TC.keep hT hF.j.1.2) (hK _ _ (.inr rfl) (hF.j.congr (fun i hi => if_off (by decide) hi) (fun i hi => if_off (by decide) hi) (fun i hi => if_off (by decide) hi)))
    · have ho' := ho
      obtain rfl := Option.some.inj ho
      have f5 : ac.tmps.getD 5 undef = .pointer (some ⟨g3, 0, none⟩) := slott hF 4 hLi 5 (by kernel_rfl)
      refine step_do ho' (wanted_free rfl) ?_
      exact wp_load_own 22 (.tmp 5) rfl g3 f5 (B32 (bdig xx)) _ 22 (hF.j.1.at g3 (B32 (bdig xx)) 22 (.tail _ (.tail _ (.tail _ (.head _))))) Tryd.underlying22 rfl (B32_info _) (hK _ _ (.inr rfl) (hF.j.congr (fun i hi => if_off (by decide) hi) (fun i hi => if_off (by decide) hi) (fun i hi => if_off (by decide) hi)))
    · have ho' := ho
      obtain rfl := Option.some.inj ho
      have f6 : ac.tmps.getD 6 undef = .pointer (some ⟨g4, 0, none⟩) := slott hF 5 hLi 6 (by kernel_rfl)
      refine step_do ho' (wanted_free rfl) ?_
      exact wp_load_own 22 (.tmp 6) rfl g4 f6 (B32 (bdig yy)) _ 22 (hF.j.1.at g4 (B32 (bdig yy)) 22 (.tail _ (.tail _ (.head _)))) Tryd.underlying22 rfl (B32_info _) (hK _ _ (.inr rfl) (hF.j.congr (fun i hi => if_off (by decide) hi) (fun i hi => if_off (by decide) hi) (fun i hi => if_off (by decide) hi)))
    · have ho' := ho
      obtain rfl := Option.some.inj ho
      have f43 : ac.tmps.getD 43 undef = .agg (B32 (bdig xx)) := (factt hF hd 4 rfl rfl (by kernel_rfl)).1.trans (factt hF hd 4 rfl rfl (by kernel_rfl)).2
      have f44 : ac.tmps.getD 44 undef = .agg (B32 (bdig yy)) := (factt hF hd 5 rfl rfl (by kernel_rfl)).1.trans (factt hF hd 5 rfl rfl (by kernel_rfl)).2
      refine step_do ho' (wanted_free rfl) ?_
      unfold Oper.wp
      go_simp
      refine (cmul hxx.out hyy.out Hxy.out _ (TC.keep hT hF.j.1.2)).mono ?_
      rintro e w' ⟨rfl, hB⟩
      exact hK _ _ (.inr rfl) ((hF.j.congr (fun i hi => if_off (by decide) hi) (fun i hi => if_off (by decide) hi) (fun i hi => if_off (by decide) hi)).below hB)
    · have ho' := ho
      obtain rfl := Option.some.inj ho
      have f42 : ac.tmps.getD 42 undef = .agg (B32 (bdig dd)) := (factt hF hd 3 rfl rfl (by kernel_rfl)).1.trans (factt hF hd 3 rfl rfl (by kernel_rfl)).2
      have f45 : ac.tmps.getD 45 undef = .agg (B32 (bdig xy)) := (factt hF hd 6 rfl rfl (by kernel_rfl)).1.trans (factt hF hd 6 rfl rfl (by kernel_rfl)).2
      refine step_do ho' (wanted_free rfl) ?_
      unfold Oper.wp
      go_simp
      refine (cmul hdd.out hxy.out Hkq.out _ (TC.keep hT hF.j.1.2)).mono ?_
      rintro e w' ⟨rfl, hB⟩
      exact hK _ _ (.inr rfl) ((hF.j.congr (fun i hi => if_off (by decide) hi) (fun i hi => if_off (by decide) hi) (fun i hi => if_off (by decide) hi)).below hB)
    · have ho' := ho
      obtain rfl := Option.some.inj ho
      refine step_do ho' (wanted_free rfl) ?_
      have hs := notyett hF 8 hLi 10 rfl (by kernel_rfl)
      unfold Oper.wp
      go_simp
      exact hK _ _ (.inr ⟨_, rfl⟩) (hF.j.alloc 0 (fun i _ hne => if_oth (k := 0) rfl hne) (fun i hi => if_off (by decide) hi) (fun i _ hne => if_oth (k := 0) rfl hne) rfl hs)
    · have ho' := ho
      obtain rfl := Option.some.inj ho
      refine step_do ho' (wanted_free rfl) ?_
      have hs := notyett hF 9 hLi 11 rfl (by kernel_rfl)
      unfold Oper.wp
      go_simp
      exact hK _ _ (.inr ⟨_, rfl⟩) (hF.j.alloc 1 (fun i _ hne => if_oth (k := 1) rfl hne) (fun i hi => if_off (by decide) hi) (fun i _ hne => if_oth (k := 1) rfl hne) rfl hs)
    · have ho' := ho
      obtain rfl := Option.some.inj ho
      have f41 : ac.tmps.getD 41 undef = .agg (B32 (bdig oz)) := (factt hF hd 2 rfl rfl (by kernel_rfl)).1.trans (factt hF hd 2 rfl rfl (by kernel_rfl)).2
      refine step_do ho' (wanted_free rfl) ?_
      obtain ⟨fg, gq, hg⟩ := factt hF hd 8 rfl rfl (by kernel_rfl)
      have hm := dep hd 8 (by kernel_rfl)
      have hj := hF.j
      rw [hg] at fg
      have hj2 := hj.at (k := 0) (by decide) hm hg hLi
      refine wp_store_own 22 (.tmp 9) (.tmp 41) rfl gq (B32 (bdig oz)) fg f41 hj2.2.2 (B32_sizes _ _) (B32_info _) (B32_one _) rfl ?_
      exact hK undef _ (.inl rfl) (hj.storeA (k := 0) Af8_0.out (by decide) hm hg hLi (B32_sizes _ _) (fun i hi => if_off (by decide) hi) (fun i _ hne => if_oth (k := 0) rfl hne) (fun i hi => if_off (by decide) hi) rfl)
    · have ho' := ho
      obtain rfl := Option.some.inj ho
      have f46 : ac.tmps.getD 46 undef = .agg (B32 (bdig kq)) := (factt hF hd 7 rfl rfl (by kernel_rfl)).1.trans (factt hF hd 7 rfl rfl (by kernel_rfl)).2
      refine step_do ho' (wanted_free rfl) ?_
      obtain ⟨fg, gq, hg⟩ := factt hF hd 9 rfl rfl (by kernel_rfl)
      have hm := dep hd 9 (by kernel_rfl)
      have hj := hF.j
      rw [hg] at fg
      have hj2 := hj.at (k := 1) (by decide) hm hg hLi
      refine wp_store_own 22 (.tmp 10) (.tmp 46) rfl gq (B32 (bdig kq)) fg f46 hj2.2.2 (B32_sizes _ _) (B32_info _) (B32_one _) rfl ?_
      exact hK undef _ (.inl rfl) (hj.storeA (k := 1) Af8_1.out (by decide) hm hg hLi (B32_sizes _ _) (fun i hi => if_off (by decide) hi) (fun i _ hne => if_oth (k := 1) rfl hne) (fun i hi => if_off (by decide) hi) rfl)
    · cases ho
  intro L vs V9 hL hJ hf
  obtain ⟨g10, hgg10⟩ := hf 8 _ _ rfl rfl
  obtain ⟨le0, apg10, owng10⟩ := hJ.gotA (k := 0) Af8_0.out (by decide) (hL 8 (by decide)) hgg10 (hL 10 (by decide))
  have le_g10 := show Hid _ from le0
  clear le0
  obtain ⟨g11, hgg11⟩ := hf 9 _ _ rfl rfl
  obtain ⟨le0, apg11, owng11⟩ := hJ.gotA (k := 1) Af8_1.out (by decide) (hL 9 (by decide)) hgg11 (hL 11 (by decide))
  have le_g11 := show Hid _ from le0
  clear le0
  have ne_g10_g11 : Hid (g10 ≠ g11) := hJ.apart (i := 0) (j := 1) (by decide) (by decide) (by decide) (hL 8 (by decide)) (hL 9 (by decide)) hgg10 hgg11
  have ne_bR_g10 : Hid (bR ≠ g10) := apg10 (bR, QA ⟨0, 0, 0⟩, 68) (.tail _ (.tail _ (.tail _ (.tail _ (.head _)))))
  have ne_bR_g11 : Hid (bR ≠ g11) := apg11 (bR, QA ⟨0, 0, 0⟩, 68) (.tail _ (.tail _ (.tail _ (.tail _ (.head _)))))
  have hK : Kp [(g11, B32 (bdig kq), 22), (g10, B32 (bdig oz), 22), (g7, B32 (bdig cr), 22), (g5, B32 (bdig zz), 22), (g4, B32 (bdig yy), 22), (g3, B32 (bdig xx), 22), (bR, QA ⟨0, 0, 0⟩, 68)] w V9 := ((hJ.1.cons owng10).cons owng11)
  have e0 : vs 0 = _ := hf 0 _ _ rfl rfl
  have e1 : vs 1 = _ := hf 1 _ _ rfl rfl
  have e2 : vs 2 = _ := hf 2 _ _ rfl rfl
  have e3 : vs 3 = _ := hf 3 _ _ rfl rfl
  have e4 : vs 4 = _ := hf 4 _ _ rfl rfl
  have e5 : vs 5 = _ := hf 5 _ _ rfl rfl
  have e6 : vs 6 = _ := hf 6 _ _ rfl rfl
  have e7 : vs 7 = _ := hf 7 _ _ rfl rfl
  simp only [putAll, Nat.zero_add, Nat.reduceAdd, e0, e1, e2, e3, e4, e5, e6, e7, hgg10, hgg11, Act.put, List.setIfInBounds_toArray, List.set_cons_succ, List.set_cons_zero]
  clear hJ hf hL e0 e1 e2 e3 e4 e5 e6 e7 hgg10 hgg11 apg10 apg11 owng10 owng11
  go_upto_region 4 with fail
  obtain ⟨Af12, Af12_0, Af12_1⟩ : ∃ qf : Nat → Array Value, Hid (qf 0 = B32 (bdig ov)) ∧ Hid (qf 1 = B32 (bdig un)) := ⟨fun qi => ([B32 (bdig ov), B32 (bdig un)] : List (Array Value)).getD qi #[], by show _ = _; simp, by show _ = _; simp⟩
  refine wp_region_told 69 (by kernel_rfl) (by kernel_rfl) (by rfl) (factSu4 oz kq ov un) (fun L vs => MkN 2 [(g11, B32 (bdig kq), 22), (g10, B32 (bdig oz), 22), (g7, B32 (bdig cr), 22), (g5, B32 (bdig zz), 22), (g4, B32 (bdig yy), 22), (g3, B32 (bdig xx), 22), (bR, QA ⟨0, 0, 0⟩, 68)] w (fun _ => B32 fun _ => 0) (Af12) (fun _ => 22) (fun i => L (6 + i)) (fun i => L (8 + i)) (fun i => vs (6 + i))) (fun _ => MkN.drew hK (fun _ _ => rfl)) ?_ ?_
  · intro L vs ac wc i o hF hLi ho hd K hK
    rcases i with _ | _ | _ | _ | _ | _ | _ | _ | _ | _ | i
    · have ho' := ho
      obtain rfl := Option.some.inj ho
      have f9 : ac.tmps.getD 9 undef = .pointer (some ⟨g10, 0, none⟩) := slott hF 0 hLi 9 (by kernel_rfl)
      refine step_do ho' (wanted_free rfl) ?_
      exact wp_load_own 22 (.tmp 9) rfl g10 f9 (B32 (bdig oz)) _ 22 (hF.j.1.at g10 (B32 (bdig oz)) 22 (.tail _ (.head _))) Tryd.underlying22 rfl (B32_info _) (hK _ _ (.inr rfl) (hF.j.congr (fun i hi => if_off (by decide) hi) (fun i hi => if_off (by decide) hi) (fun i hi => if_off (by decide) hi)))
    · have ho' := ho
      obtain rfl := Option.some.inj ho
      have f10 : ac.tmps.getD 10 undef = .pointer (some ⟨g11, 0, none⟩) := slott hF 1 hLi 10 (by kernel_rfl)
      refine step_do ho' (wanted_free rfl) ?_
      exact wp_load_own 22 (.tmp 10) rfl g11 f10 (B32 (bdig kq)) _ 22 (hF.j.1.at g11 (B32 (bdig kq)) 22 (.head _)) Tryd.underlying22 rfl (B32_info _) (hK _ _ (.inr rfl) (hF.j.congr (fun i hi => if_off (by decide) hi) (fun i hi => if_off (by decide) hi) (fun i hi => if_off (by decide) hi)))
    · have ho' := ho
      obtain rfl := Option.some.inj ho
      have f47 : ac.tmps.getD 47 undef = .agg (B32 (bdig oz)) := (factt hF hd 0 rfl rfl (by kernel_rfl)).1.trans (factt hF hd 0 rfl rfl (by kernel_rfl)).2
      have f48 : ac.tmps.getD 48 undef = .agg (B32 (bdig kq)) := (factt hF hd 1 rfl rfl (by kernel_rfl)).1.trans (factt hF hd 1 rfl rfl (by kernel_rfl)).2
      refine step_do ho' (wanted_free rfl) ?_
      unfold Oper.wp
      go_simp
      refine (cadd hoz.out hkq.out Hov.out _ (TC.keep hT hF.j.1.2)).mono ?_
      rintro e w' ⟨rfl, hB⟩
      exact hK _ _ (.inr rfl) ((hF.j.congr (fun i hi => if_off (by decide) hi) (fun i hi => if_off (by decide) hi) (fun i hi => if_off (by decide) hi)).below hB)
    · have ho' := ho
      obtain rfl := Option.some.inj ho
      have f9 : ac.tmps.getD 9 undef = .pointer (some ⟨g10, 0, none⟩) := slott hF 3 hLi 9 (by kernel_rfl)
      refine step_do ho' (wanted_free rfl) ?_
      exact wp_load_own 22 (.tmp 9) rfl g10 f9 (B32 (bdig oz)) _ 22 (hF.j.1.at g10 (B32 (bdig oz)) 22 (.tail _ (.head _))) Tryd.underlying22 rfl (B32_info _) (hK _ _ (.inr rfl) (hF.j.congr (fun i hi => if_off (by decide) hi) (fun i hi => if_off (by decide) hi) (fun i hi => if_off (by decide) hi)))
    · have ho' := ho
      obtain rfl := Option.some.inj ho
      have f10 : ac.tmps.getD 10 undef = .pointer (some ⟨g11, 0, none⟩) := slott hF 4 hLi 10 (by kernel_rfl)
      refine step_do ho' (wanted_free rfl) ?_
      exact wp_load_own 22 (.tmp 10) rfl g11 f10 (B32 (bdig kq)) _ 22 (hF.j.1.at g11 (B32 (bdig kq)) 22 (.head _)) Tryd.underlying22 rfl (B32_info _) (hK _ _ (.inr rfl) (hF.j.congr (fun i hi => if_off (by decide) hi) (fun i hi => if_off (by decide) hi) (fun i hi => if_off (by decide) hi)))
    · have ho' := ho
      obtain rfl := Option.some.inj ho
      have f50 : ac.tmps.getD 50 undef = .agg (B32 (bdig oz)) := (factt hF hd 3 rfl rfl (by kernel_rfl)).1.trans (factt hF hd 3 rfl rfl (by kernel_rfl)).2
      have f51 : ac.tmps.getD 51 undef = .agg (B32 (bdig kq)) := (factt hF hd 4 rfl rfl (by kernel_rfl)).1.trans (factt hF hd 4 rfl rfl (by kernel_rfl)).2
      refine step_do ho' (wanted_free rfl) ?_
      unfold Oper.wp
      go_simp
      refine (csub hoz.out hkq.out Hun.out _ (TC.keep hT hF.j.1.2)).mono ?_
      rintro e w' ⟨rfl, hB⟩
      exact hK _ _ (.inr rfl) ((hF.j.congr (fun i hi => if_off (by decide) hi) (fun i hi => if_off (by decide) hi) (fun i hi => if_off (by decide) hi)).below hB)
    · have ho' := ho
      obtain rfl := Option.some.inj ho
      refine step_do ho' (wanted_free rfl) ?_
      have hs := notyett hF 6 hLi 8 rfl (by kernel_rfl)
      unfold Oper.wp
      go_simp
      exact hK _ _ (.inr ⟨_, rfl⟩) (hF.j.alloc 0 (fun i _ hne => if_oth (k := 0) rfl hne) (fun i hi => if_off (by decide) hi) (fun i _ hne => if_oth (k := 0) rfl hne) rfl hs)
    · have ho' := ho
      obtain rfl := Option.some.inj ho
      refine step_do ho' (wanted_free rfl) ?_
      have hs := notyett hF 7 hLi 9 rfl (by kernel_rfl)
      unfold Oper.wp
      go_simp
      exact hK _ _ (.inr ⟨_, rfl⟩) (hF.j.alloc 1 (fun i _ hne => if_oth (k := 1) rfl hne) (fun i hi => if_off (by decide) hi) (fun i _ hne => if_oth (k := 1) rfl hne) rfl hs)
    · have ho' := ho
      obtain rfl := Option.some.inj ho
      have f49 : ac.tmps.getD 49 undef = .agg (B32 (bdig ov)) := (factt hF hd 2 rfl rfl (by kernel_rfl)).1.trans (factt hF hd 2 rfl rfl (by kernel_rfl)).2
      refine step_do ho' (wanted_free rfl) ?_
      obtain ⟨fg, gq, hg⟩ := factt hF hd 6 rfl rfl (by kernel_rfl)
      have hm := dep hd 6 (by kernel_rfl)
      have hj := hF.j
      rw [hg] at fg
      have hj2 := hj.at (k := 0) (by decide) hm hg hLi
      refine wp_store_own 22 (.tmp 11) (.tmp 49) rfl gq (B32 (bdig ov)) fg f49 hj2.2.2 (B32_sizes _ _) (B32_info _) (B32_one _) rfl ?_
      exact hK undef _ (.inl rfl) (hj.storeA (k := 0) Af12_0.out (by decide) hm hg hLi (B32_sizes _ _) (fun i hi => if_off (by decide) hi) (fun i _ hne => if_oth (k := 0) rfl hne) (fun i hi => if_off (by decide) hi) rfl)
    · have ho' := ho
      obtain rfl := Option.some.inj ho
      have f52 : ac.tmps.getD 52 undef = .agg (B32 (bdig un)) := (factt hF hd 5 rfl rfl (by kernel_rfl)).1.trans (factt hF hd 5 rfl rfl (by kernel_rfl)).2
      refine step_do ho' (wanted_free rfl) ?_
      obtain ⟨fg, gq, hg⟩ := factt hF hd 7 rfl rfl (by kernel_rfl)
      have hm := dep hd 7 (by kernel_rfl)
      have hj := hF.j
      rw [hg] at fg
      have hj2 := hj.at (k := 1) (by decide) hm hg hLi
      refine wp_store_own 22 (.tmp 12) (.tmp 52) rfl gq (B32 (bdig un)) fg f52 hj2.2.2 (B32_sizes _ _) (B32_info _) (B32_one _) rfl ?_
      exact hK undef _ (.inl rfl) (hj.storeA (k := 1) Af12_1.out (by decide) hm hg hLi (B32_sizes _ _) (fun i hi => if_off (by decide) hi) (fun i _ hne => if_oth (k := 1) rfl hne) (fun i hi => if_off (by decide) hi) rfl)
    · cases ho
  intro L vs V13 hL hJ hf
  obtain ⟨g14, hgg14⟩ := hf 6 _ _ rfl rfl
  obtain ⟨le0, apg14, owng14⟩ := hJ.gotA (k := 0) Af12_0.out (by decide) (hL 6 (by decide)) hgg14 (hL 8 (by decide))
  have le_g14 := show Hid _ from le0
  clear le0
  obtain ⟨g15, hgg15⟩ := hf 7 _ _ rfl rfl
  obtain ⟨le0, apg15, owng15⟩ := hJ.gotA (k := 1) Af12_1.out (by decide) (hL 7 (by decide)) hgg15 (hL 9 (by decide))
  have le_g15 := show Hid _ from le0
  clear le0
  have ne_g14_g15 : Hid (g14 ≠ g15) := hJ.apart (i := 0) (j := 1) (by decide) (by decide) (by decide) (hL 6 (by decide)) (hL 7 (by decide)) hgg14 hgg15
  have ne_bR_g14 : Hid (bR ≠ g14) := apg14 (bR, QA ⟨0, 0, 0⟩, 68) (.tail _ (.tail _ (.tail _ (.tail _ (.tail _ (.tail _ (.head _)))))))
  have ne_bR_g15 : Hid (bR ≠ g15) := apg15 (bR, QA ⟨0, 0, 0⟩, 68) (.tail _ (.tail _ (.tail _ (.tail _ (.tail _ (.tail _ (.head _)))))))
  have hK : Kp [(g15, B32 (bdig un), 22), (g14, B32 (bdig ov), 22), (g11, B32 (bdig kq), 22), (g10, B32 (bdig oz), 22), (g7, B32 (bdig cr), 22), (g5, B32 (bdig zz), 22), (g4, B32 (bdig yy), 22), (g3, B32 (bdig xx), 22), (bR, QA ⟨0, 0, 0⟩, 68)] w V13 := ((hJ.1.cons owng14).cons owng15)
  have e0 : vs 0 = _ := hf 0 _ _ rfl rfl
  have e1 : vs 1 = _ := hf 1 _ _ rfl rfl
  have e2 : vs 2 = _ := hf 2 _ _ rfl rfl
  have e3 : vs 3 = _ := hf 3 _ _ rfl rfl
  have e4 : vs 4 = _ := hf 4 _ _ rfl rfl
  have e5 : vs 5 = _ := hf 5 _ _ rfl rfl
  simp only [putAll, Nat.zero_add, Nat.reduceAdd, e0, e1, e2, e3, e4, e5, hgg14, hgg15, Act.put, List.setIfInBounds_toArray, List.set_cons_succ, List.set_cons_zero]
  clear hJ hf hL e0 e1 e2 e3 e4 e5 hgg14 hgg15 apg14 apg15 owng14 owng15
  go_upto_region 5 with fail
  have hK : Kp [(g15, B32 (bdig un), 22), (g14, B32 (bdig ov), 22), (g7, B32 (bdig cr), 22), (g5, B32 (bdig zz), 22), (g4, B32 (bdig yy), 22), (g3, B32 (bdig xx), 22), (bR, QA ⟨0, 0, 0⟩, 68)] w V13 := (((((((hK.none.cons (hK.at bR (QA ⟨0, 0, 0⟩) 68 (.tail _ (.tail _ (.tail _ (.tail _ (.tail _ (.tail _ (.tail _ (.tail _ (.head _))))))))))).cons (hK.at g3 (B32 (bdig xx)) 22 (.tail _ (.tail _ (.tail _ (.tail _ (.tail _ (.tail _ (.tail _ (.head _)))))))))).cons (hK.at g4 (B32 (bdig yy)) 22 (.tail _ (.tail _ (.tail _ (.tail _ (.tail _ (.tail _ (.head _))))))))).cons (hK.at g5 (B32 (bdig zz)) 22 (.tail _ (.tail _ (.tail _ (.tail _ (.tail _ (.head _)))))))).cons (hK.at g7 (B32 (bdig cr)) 22 (.tail _ (.tail _ (.tail _ (.tail _ (.head _))))))).cons (hK.at g14 (B32 (bdig ov)) 22 (.tail _ (.head _)))).cons (hK.at g15 (B32 (bdig un)) 22 (.head _)))
  refine wp_region_vals 69 (by kernel_rfl) (by kernel_rfl) (by rfl) (valSu5 xx yy zz cr ov un au X yx yo Y Z) (fun L => Kp [(g15, B32 (bdig un), 22), (g14, B32 (bdig ov), 22), (g7, B32 (bdig cr), 22), (g5, B32 (bdig zz), 22), (g4, B32 (bdig yy), 22), (g3, B32 (bdig xx), 22), (bR, if L 16 = true then QA ⟨X, Y, Z⟩ else QA ⟨0, 0, 0⟩, 68)] w) hK.drew ?_ ?_
  · intro L ac wc i o hF hLi ho hd K hK
    rcases i with _ | _ | _ | _ | _ | _ | _ | _ | _ | _ | _ | _ | _ | _ | _ | _ | _ | i
    · have ho' := ho
      obtain rfl := Option.some.inj ho
      have f7 : ac.tmps.getD 7 undef = .pointer (some ⟨g5, 0, none⟩) := slotv hF 0 hLi 7 (by kernel_rfl)
      refine step_do ho' (wanted_free rfl) ?_
      exact wp_load_own 22 (.tmp 7) rfl g5 f7 (B32 (bdig zz)) _ 22 (hF.j.at g5 (B32 (bdig zz)) 22 (.tail _ (.tail _ (.tail _ (.head _))))) Tryd.underlying22 rfl (B32_info _) (hK _ _ (.inr rfl) hF.j)
    · have ho' := ho
      obtain rfl := Option.some.inj ho
      have f8 : ac.tmps.getD 8 undef = .pointer (some ⟨g7, 0, none⟩) := slotv hF 1 hLi 8 (by kernel_rfl)
      refine step_do ho' (wanted_free rfl) ?_
      exact wp_load_own 22 (.tmp 8) rfl g7 f8 (B32 (bdig cr)) _ 22 (hF.j.at g7 (B32 (bdig cr)) 22 (.tail _ (.tail _ (.head _)))) Tryd.underlying22 rfl (B32_info _) (hK _ _ (.inr rfl) hF.j)
    · have ho' := ho
      obtain rfl := Option.some.inj ho
      have f12 : ac.tmps.getD 12 undef = .pointer (some ⟨g15, 0, none⟩) := slotv hF 2 hLi 12 (by kernel_rfl)
      refine step_do ho' (wanted_free rfl) ?_
      exact wp_load_own 22 (.tmp 12) rfl g15 f12 (B32 (bdig un)) _ 22 (hF.j.at g15 (B32 (bdig un)) 22 (.head _)) Tryd.underlying22 rfl (B32_info _) (hK _ _ (.inr rfl) hF.j)
    · have ho' := ho
      obtain rfl := Option.some.inj ho
      have f54 : ac.tmps.getD 54 undef = .agg (B32 (bdig cr)) := valv hF hd 1 rfl rfl (by kernel_rfl)
      have f55 : ac.tmps.getD 55 undef = .agg (B32 (bdig un)) := valv hF hd 2 rfl rfl (by kernel_rfl)
      refine step_do ho' (wanted_free rfl) ?_
      unfold Oper.wp
      go_simp
      refine (cmul hcr.out hun.out Hau.out _ (TC.keep hT hF.j.2)).mono ?_
      rintro e w' ⟨rfl, hB⟩
      exact hK _ _ (.inr rfl) (hF.j.below hB)
    · have ho' := ho
      obtain rfl := Option.some.inj ho
      have f53 : ac.tmps.getD 53 undef = .agg (B32 (bdig zz)) := valv hF hd 0 rfl rfl (by kernel_rfl)
      have f56 : ac.tmps.getD 56 undef = .agg (B32 (bdig au)) := valv hF hd 3 rfl rfl (by kernel_rfl)
      refine step_do ho' (wanted_free rfl) ?_
      unfold Oper.wp
      go_simp
      refine (cmul hzz.out hau.out HX.out _ (TC.keep hT hF.j.2)).mono ?_
      rintro e w' ⟨rfl, hB⟩
      exact hK _ _ (.inr rfl) (hF.j.below hB)
    · have ho' := ho
      obtain rfl := Option.some.inj ho
      have f7 : ac.tmps.getD 7 undef = .pointer (some ⟨g5, 0, none⟩) := slotv hF 5 hLi 7 (by kernel_rfl)
      refine step_do ho' (wanted_free rfl) ?_
      exact wp_load_own 22 (.tmp 7) rfl g5 f7 (B32 (bdig zz)) _ 22 (hF.j.at g5 (B32 (bdig zz)) 22 (.tail _ (.tail _ (.tail _ (.head _))))) Tryd.underlying22 rfl (B32_info _) (hK _ _ (.inr rfl) hF.j)
    · have ho' := ho
      obtain rfl := Option.some.inj ho
      have f6 : ac.tmps.getD 6 undef = .pointer (some ⟨g4, 0, none⟩) := slotv hF 6 hLi 6 (by kernel_rfl)
      refine step_do ho' (wanted_free rfl) ?_
      exact wp_load_own 22 (.tmp 6) rfl g4 f6 (B32 (bdig yy)) _ 22 (hF.j.at g4 (B32 (bdig yy)) 22 (.tail _ (.tail _ (.tail _ (.tail _ (.head _)))))) Tryd.underlying22 rfl (B32_info _) (hK _ _ (.inr rfl) hF.j)
    · have ho' := ho
      obtain rfl := Option.some.inj ho
      have f5 : ac.tmps.getD 5 undef = .pointer (some ⟨g3, 0, none⟩) := slotv hF 7 hLi 5 (by kernel_rfl)
      refine step_do ho' (wanted_free rfl) ?_
      exact wp_load_own 22 (.tmp 5) rfl g3 f5 (B32 (bdig xx)) _ 22 (hF.j.at g3 (B32 (bdig xx)) 22 (.tail _ (.tail _ (.tail _ (.tail _ (.tail _ (.head _))))))) Tryd.underlying22 rfl (B32_info _) (hK _ _ (.inr rfl) hF.j)
    · have ho' := ho
      obtain rfl := Option.some.inj ho
      have f59 : ac.tmps.getD 59 undef = .agg (B32 (bdig yy)) := valv hF hd 6 rfl rfl (by kernel_rfl)
      have f60 : ac.tmps.getD 60 undef = .agg (B32 (bdig xx)) := valv hF hd 7 rfl rfl (by kernel_rfl)
      refine step_do ho' (wanted_free rfl) ?_
      unfold Oper.wp
      go_simp
      refine (cadd hyy.out hxx.out Hyx.out _ (TC.keep hT hF.j.2)).mono ?_
      rintro e w' ⟨rfl, hB⟩
      exact hK _ _ (.inr rfl) (hF.j.below hB)
    · have ho' := ho
      obtain rfl := Option.some.inj ho
      have f11 : ac.tmps.getD 11 undef = .pointer (some ⟨g14, 0, none⟩) := slotv hF 9 hLi 11 (by kernel_rfl)
      refine step_do ho' (wanted_free rfl) ?_
      exact wp_load_own 22 (.tmp 11) rfl g14 f11 (B32 (bdig ov)) _ 22 (hF.j.at g14 (B32 (bdig ov)) 22 (.tail _ (.head _))) Tryd.underlying22 rfl (B32_info _) (hK _ _ (.inr rfl) hF.j)
    · have ho' := ho
      obtain rfl := Option.some.inj ho
      have f61 : ac.tmps.getD 61 undef = .agg (B32 (bdig yx)) := valv hF hd 8 rfl rfl (by kernel_rfl)
      have f62 : ac.tmps.getD 62 undef = .agg (B32 (bdig ov)) := valv hF hd 9 rfl rfl (by kernel_rfl)
      refine step_do ho' (wanted_free rfl) ?_
      unfold Oper.wp
      go_simp
      refine (cmul hyx.out hov.out Hyo.out _ (TC.keep hT hF.j.2)).mono ?_
      rintro e w' ⟨rfl, hB⟩
      exact hK _ _ (.inr rfl) (hF.j.below hB)
    · have ho' := ho
      obtain rfl := Option.some.inj ho
      have f58 : ac.tmps.getD 58 undef = .agg (B32 (bdig zz)) := valv hF hd 5 rfl rfl (by kernel_rfl)
      have f63 : ac.tmps.getD 63 undef = .agg (B32 (bdig yo)) := valv hF hd 10 rfl rfl (by kernel_rfl)
      refine step_do ho' (wanted_free rfl) ?_
      unfold Oper.wp
      go_simp
      refine (cmul hzz.out hyo.out HY.out _ (TC.keep hT hF.j.2)).mono ?_
      rintro e w' ⟨rfl, hB⟩
      exact hK _ _ (.inr rfl) (hF.j.below hB)
    · have ho' := ho
      obtain rfl := Option.some.inj ho
      have f11 : ac.tmps.getD 11 undef = .pointer (some ⟨g14, 0, none⟩) := slotv hF 12 hLi 11 (by kernel_rfl)
      refine step_do ho' (wanted_free rfl) ?_
      exact wp_load_own 22 (.tmp 11) rfl g14 f11 (B32 (bdig ov)) _ 22 (hF.j.at g14 (B32 (bdig ov)) 22 (.tail _ (.head _))) Tryd.underlying22 rfl (B32_info _) (hK _ _ (.inr rfl) hF.j)
    · have ho' := ho
      obtain rfl := Option.some.inj ho
      have f12 : ac.tmps.getD 12 undef = .pointer (some ⟨g15, 0, none⟩) := slotv hF 13 hLi 12 (by kernel_rfl)
      refine step_do ho' (wanted_free rfl) ?_
      exact wp_load_own 22 (.tmp 12) rfl g15 f12 (B32 (bdig un)) _ 22 (hF.j.at g15 (B32 (bdig un)) 22 (.head _)) Tryd.underlying22 rfl (B32_info _) (hK _ _ (.inr rfl) hF.j)
    · have ho' := ho
      obtain rfl := Option.some.inj ho
      have f65 : ac.tmps.getD 65 undef = .agg (B32 (bdig ov)) := valv hF hd 12 rfl rfl (by kernel_rfl)
      have f66 : ac.tmps.getD 66 undef = .agg (B32 (bdig un)) := valv hF hd 13 rfl rfl (by kernel_rfl)
      refine step_do ho' (wanted_free rfl) ?_
      unfold Oper.wp
      go_simp
      refine (cmul hov.out hun.out HZ.out _ (TC.keep hT hF.j.2)).mono ?_
      rintro e w' ⟨rfl, hB⟩
      exact hK _ _ (.inr rfl) (hF.j.below hB)
    · have ho' := ho
      obtain rfl := Option.some.inj ho
      have f57 : ac.tmps.getD 57 undef = .agg (B32 (bdig X)) := valv hF hd 4 rfl rfl (by kernel_rfl)
      have f64 : ac.tmps.getD 64 undef = .agg (B32 (bdig Y)) := valv hF hd 11 rfl rfl (by kernel_rfl)
      have f67 : ac.tmps.getD 67 undef = .agg (B32 (bdig Z)) := valv hF hd 14 rfl rfl (by kernel_rfl)
      refine step_do ho' (wanted_free rfl) ?_
      exact wp_build_q 57 64 67 (X) (Y) (Z) rfl f57 f64 f67 (hK _ _ (.inr rfl) hF.j)
    · have ho' := ho
      obtain rfl := Option.some.inj ho
      have f4 : ac.tmps.getD 4 undef = .pointer (some ⟨bR, 0, none⟩) := slotv hF 16 hLi 4 (by kernel_rfl)
      have f68 : ac.tmps.getD 68 undef = .agg (QA ⟨X, Y, Z⟩) := valv hF hd 15 rfl rfl (by kernel_rfl)
      refine step_do ho' (wanted_free rfl) ?_
      have hj := hF.j
      rw [hLi] at hj
      have hj : Kp [(g15, B32 (bdig un), 22), (g14, B32 (bdig ov), 22), (g7, B32 (bdig cr), 22), (g5, B32 (bdig zz), 22), (g4, B32 (bdig yy), 22), (g3, B32 (bdig xx), 22), (bR, QA ⟨0, 0, 0⟩, 68)] w wc := hj
      have hj : Kp [(bR, QA ⟨0, 0, 0⟩, 68), (g15, B32 (bdig un), 22), (g14, B32 (bdig ov), 22), (g7, B32 (bdig cr), 22), (g5, B32 (bdig zz), 22), (g4, B32 (bdig yy), 22), (g3, B32 (bdig xx), 22)] w wc := (((((((hj.none.cons (hj.at g3 (B32 (bdig xx)) 22 (.tail _ (.tail _ (.tail _ (.tail _ (.tail _ (.head _)))))))).cons (hj.at g4 (B32 (bdig yy)) 22 (.tail _ (.tail _ (.tail _ (.tail _ (.head _))))))).cons (hj.at g5 (B32 (bdig zz)) 22 (.tail _ (.tail _ (.tail _ (.head _)))))).cons (hj.at g7 (B32 (bdig cr)) 22 (.tail _ (.tail _ (.head _))))).cons (hj.at g14 (B32 (bdig ov)) 22 (.tail _ (.head _)))).cons (hj.at g15 (B32 (bdig un)) 22 (.head _))).cons (hj.at bR (QA ⟨0, 0, 0⟩) 68 (.tail _ (.tail _ (.tail _ (.tail _ (.tail _ (.tail _ (.head _)))))))))
      refine wp_store_own 68 (.tmp 4) (.tmp 68) rfl bR (QA ⟨X, Y, Z⟩) f4 f68 (hj.at bR (QA ⟨0, 0, 0⟩) 68 (.head _)) (QA_sizes _ _) (QA_info _) (QA_one _) rfl ?_
      have hj := Kp.set (A' := QA ⟨X, Y, Z⟩) hj (by simp only [List.forall_mem_cons, List.not_mem_nil, false_implies, implies_true, and_true]; exact ⟨(Ne.symm ne_bR_g15.out), (Ne.symm ne_bR_g14.out), (Ne.symm ne_bR_g7.out), (Ne.symm ne_bR_g5.out), (Ne.symm ne_bR_g4.out), (Ne.symm ne_bR_g3.out)⟩) le_bR.out (QA_sizes _ _)
      exact hK undef _ (.inl rfl) (((((((hj.none.cons (hj.at bR (QA ⟨X, Y, Z⟩) 68 (.head _))).cons (hj.at g3 (B32 (bdig xx)) 22 (.tail _ (.tail _ (.tail _ (.tail _ (.tail _ (.tail _ (.head _))))))))).cons (hj.at g4 (B32 (bdig yy)) 22 (.tail _ (.tail _ (.tail _ (.tail _ (.tail _ (.head _)))))))).cons (hj.at g5 (B32 (bdig zz)) 22 (.tail _ (.tail _ (.tail _ (.tail _ (.head _))))))).cons (hj.at g7 (B32 (bdig cr)) 22 (.tail _ (.tail _ (.tail _ (.head _)))))).cons (hj.at g14 (B32 (bdig ov)) 22 (.tail _ (.tail _ (.head _))))).cons (hj.at g15 (B32 (bdig un)) 22 (.tail _ (.head _))))
    · cases ho
  intro L V16 hL hKq
  rw [hL 16 (by decide)] at hKq
  have hK : Kp [(g15, B32 (bdig un), 22), (g14, B32 (bdig ov), 22), (g7, B32 (bdig cr), 22), (g5, B32 (bdig zz), 22), (g4, B32 (bdig yy), 22), (g3, B32 (bdig xx), 22), (bR, QA ⟨X, Y, Z⟩, 68)] w V16 := hKq
  clear hKq hL
  simp only [putAll, valSu5, Act.put, List.setIfInBounds_toArray, List.set_cons_succ, List.set_cons_zero]
  go_wp2_with fail
  exact bodyPost_ret (results_own Tryd.results40 _ _ bR (QA ⟨X, Y, Z⟩) _ (by rfl) (hK.at bR (QA ⟨X, Y, Z⟩) 68 (.tail _ (.tail _ (.tail _ (.tail _ (.tail _ (.tail _ (.head _)))))))) Tryd.underlying68 rfl (QA_info _)) rfl ⟨rfl, hK.2⟩
theorem sum_at {P Q : Pt E5} {p q s : N3} (hp : Ok3 P p) (hq : Ok3 Q q) (hs : sum3 p q = s) (w : World) (hT : TC w) : Calls Tryd.prog 40 #[.agg (QA p), .agg (QA q)] w fun x w' => x = .returned (.agg (QA s)) ∧ Below w.heap.size w w' := by
  subst hs
  exact sum_nat hp.lX hp.lY hp.lZ hq.lX hq.lY hq.lZ w hT
end Go.Proofs.YtfkcphbbabaefaaDoor
