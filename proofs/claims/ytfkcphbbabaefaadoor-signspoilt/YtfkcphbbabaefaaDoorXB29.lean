/- Of the texts V1B: what the card of this claim reaches. -/
import Derived.Test.YtfkcphbbabaefaaDoorXB28
namespace Go.Proofs.YtfkcphbbabaefaaDoor
open Go Go.RowKit
def factPl1 (bP bQ X1 Y1 X2 Y2 s1 s2 a : Nat) : Nat → Value → Prop
  | 0, v => v = .pointer (some ⟨bP, 4, none⟩)
  | 1, v => v = .agg (numA Y1)
  | 2, v => v = .pointer (some ⟨bP, 0, none⟩)
  | 3, v => v = .agg (numA X1)
  | 4, v => v = .agg (numA s1)
  | 5, v => v = .pointer (some ⟨bQ, 4, none⟩)
  | 6, v => v = .agg (numA Y2)
  | 7, v => v = .pointer (some ⟨bQ, 0, none⟩)
  | 8, v => v = .agg (numA X2)
  | 9, v => v = .agg (numA s2)
  | 10, v => v = .agg (numA a)
  | 11, v => ∃ g, v = .pointer (some ⟨g, 0, none⟩)
  | _, _ => True
def factPl2 (bP bQ X1 Y1 X2 Y2 t1 t2 b : Nat) : Nat → Value → Prop
  | 0, v => v = .pointer (some ⟨bP, 4, none⟩)
  | 1, v => v = .agg (numA Y1)
  | 2, v => v = .pointer (some ⟨bP, 0, none⟩)
  | 3, v => v = .agg (numA X1)
  | 4, v => v = .agg (numA t1)
  | 5, v => v = .pointer (some ⟨bQ, 4, none⟩)
  | 6, v => v = .agg (numA Y2)
  | 7, v => v = .pointer (some ⟨bQ, 0, none⟩)
  | 8, v => v = .agg (numA X2)
  | 9, v => v = .agg (numA t2)
  | 10, v => v = .agg (numA b)
  | 11, v => ∃ g, v = .pointer (some ⟨g, 0, none⟩)
  | _, _ => True
def factPl3 (bP bQ T1 T2 k u c0 : Nat) : Nat → Value → Prop
  | 0, v => v = .pointer (some ⟨bP, 12, none⟩)
  | 1, v => v = .agg (numA T1)
  | 2, v => v = .agg (numA k)
  | 3, v => v = .agg (numA u)
  | 4, v => v = .pointer (some ⟨bQ, 12, none⟩)
  | 5, v => v = .agg (numA T2)
  | 6, v => v = .agg (numA c0)
  | 7, v => ∃ g, v = .pointer (some ⟨g, 0, none⟩)
  | _, _ => True
def factPl7 (a b c e h f g i : Nat) : Nat → Value → Prop
  | 0, v => v = .agg (numA b)
  | 1, v => v = .agg (numA a)
  | 2, v => v = .agg (numA h)
  | 3, v => v = .agg (numA e)
  | 4, v => v = .agg (numA c)
  | 5, v => v = .agg (numA f)
  | 6, v => v = .agg (numA e)
  | 7, v => v = .agg (numA c)
  | 8, v => v = .agg (numA g)
  | 9, v => v = .agg (numA b)
  | 10, v => v = .agg (numA a)
  | 11, v => v = .agg (numA i)
  | 12, v => ∃ g, v = .pointer (some ⟨g, 0, none⟩)
  | 13, v => ∃ g, v = .pointer (some ⟨g, 0, none⟩)
  | 14, v => ∃ g, v = .pointer (some ⟨g, 0, none⟩)
  | 15, v => ∃ g, v = .pointer (some ⟨g, 0, none⟩)
  | _, _ => True
def valPl8 (h f g i X Y Z T : Nat) : Nat → Value
  | 0 => .agg (numA h)
  | 1 => .agg (numA f)
  | 2 => .agg (numA X)
  | 3 => .agg (numA g)
  | 4 => .agg (numA i)
  | 5 => .agg (numA Y)
  | 6 => .agg (numA f)
  | 7 => .agg (numA g)
  | 8 => .agg (numA Z)
  | 9 => .agg (numA h)
  | 10 => .agg (numA i)
  | 11 => .agg (numA T)
  | 12 => .agg (PA ⟨X, Y, Z, T⟩)
  | _ => undef
set_option maxRecDepth 100000 in
set_option maxHeartbeats 2000000 in
theorem plus_nat {X1 Y1 Z1 T1 X2 Y2 Z2 T2 k : Nat} (hX1 : Hid (X1 < R256)) (hY1 : Hid (Y1 < R256)) (hZ1 : Hid (Z1 < R256)) (hT1 : Hid (T1 < R256)) (hX2 : Hid (X2 < R256)) (hY2 : Hid (Y2 < R256)) (hZ2 : Hid (Z2 < R256)) (hT2 : Hid (T2 < R256)) (hk : Hid (k < R256)) (hkd : k = dd) (w : World) :
    Calls Tryd.prog 56 #[.agg (PA ⟨X1, Y1, Z1, T1⟩), .agg (PA ⟨X2, Y2, Z2, T2⟩), .agg (numA k)] w fun x w' => x = .returned (.agg (PA (plus4 ⟨X1, Y1, Z1, T1⟩ ⟨X2, Y2, Z2, T2⟩))) ∧ Below w.heap.size w w' := by
  have hz := (zero_of_info zeroLit).1
  have hzP := (zero_of_info zeroPA).1
  obtain ⟨s1, Hs1⟩ : ∃ x, Hid (subp Y1 X1 = x) := ⟨_, rfl⟩
  have hs1 : Hid (s1 < R256) := by show _ < _; rw [← Hs1.out]; exact subp_lt _ _
  obtain ⟨s2, Hs2⟩ : ∃ x, Hid (subp Y2 X2 = x) := ⟨_, rfl⟩
  have hs2 : Hid (s2 < R256) := by show _ < _; rw [← Hs2.out]; exact subp_lt _ _
  obtain ⟨a, Ha⟩ : ∃ x, Hid (s1 * s2 % pp = x) := ⟨_, rfl⟩
  have ha : Hid (a < R256) := by show _ < _; rw [← Ha.out]; exact lt_of_mod
  obtain ⟨t1, Ht1⟩ : ∃ x, Hid ((Y1 + X1) % pp = x) := ⟨_, rfl⟩
  have ht1 : Hid (t1 < R256) := by show _ < _; rw [← Ht1.out]; exact lt_of_mod
  obtain ⟨t2, Ht2⟩ : ∃ x, Hid ((Y2 + X2) % pp = x) := ⟨_, rfl⟩
  have ht2 : Hid (t2 < R256) := by show _ < _; rw [← Ht2.out]; exact lt_of_mod
  obtain ⟨b, Hb⟩ : ∃ x, Hid (t1 * t2 % pp = x) := ⟨_, rfl⟩
  have hb : Hid (b < R256) := by show _ < _; rw [← Hb.out]; exact lt_of_mod
  obtain ⟨u, Hu⟩ : ∃ x, Hid (T1 * k % pp = x) := ⟨_, rfl⟩
  have hu : Hid (u < R256) := by show _ < _; rw [← Hu.out]; exact lt_of_mod
  obtain ⟨c0, Hc0⟩ : ∃ x, Hid (u * T2 % pp = x) := ⟨_, rfl⟩
  have hc0 : Hid (c0 < R256) := by show _ < _; rw [← Hc0.out]; exact lt_of_mod
  obtain ⟨c, Hc⟩ : ∃ x, Hid ((c0 + c0) % pp = x) := ⟨_, rfl⟩
  have hc : Hid (c < R256) := by show _ < _; rw [← Hc.out]; exact lt_of_mod
  obtain ⟨e0, He0⟩ : ∃ x, Hid (Z1 * Z2 % pp = x) := ⟨_, rfl⟩
  have he0 : Hid (e0 < R256) := by show _ < _; rw [← He0.out]; exact lt_of_mod
  obtain ⟨e, He⟩ : ∃ x, Hid ((e0 + e0) % pp = x) := ⟨_, rfl⟩
  have he : Hid (e < R256) := by show _ < _; rw [← He.out]; exact lt_of_mod
  obtain ⟨h, Hh⟩ : ∃ x, Hid (subp b a = x) := ⟨_, rfl⟩
  have hh : Hid (h < R256) := by show _ < _; rw [← Hh.out]; exact subp_lt _ _
  obtain ⟨f, Hf⟩ : ∃ x, Hid (subp e c = x) := ⟨_, rfl⟩
  have hf : Hid (f < R256) := by show _ < _; rw [← Hf.out]; exact subp_lt _ _
  obtain ⟨g, Hg⟩ : ∃ x, Hid ((e + c) % pp = x) := ⟨_, rfl⟩
  have hg : Hid (g < R256) := by show _ < _; rw [← Hg.out]; exact lt_of_mod
  obtain ⟨i, Hi⟩ : ∃ x, Hid ((b + a) % pp = x) := ⟨_, rfl⟩
  have hi : Hid (i < R256) := by show _ < _; rw [← Hi.out]; exact lt_of_mod
  obtain ⟨X, HX⟩ : ∃ x, Hid (h * f % pp = x) := ⟨_, rfl⟩
  have hX : Hid (X < R256) := by show _ < _; rw [← HX.out]; exact lt_of_mod
  obtain ⟨Y, HY⟩ : ∃ x, Hid (g * i % pp = x) := ⟨_, rfl⟩
  have hY : Hid (Y < R256) := by show _ < _; rw [← HY.out]; exact lt_of_mod
  obtain ⟨Z, HZ⟩ : ∃ x, Hid (f * g % pp = x) := ⟨_, rfl⟩
  have hZ : Hid (Z < R256) := by show _ < _; rw [← HZ.out]; exact lt_of_mod
  obtain ⟨T, HT⟩ : ∃ x, Hid (h * i % pp = x) := ⟨_, rfl⟩
  have hT : Hid (T < R256) := by show _ < _; rw [← HT.out]; exact lt_of_mod
  have He4 : Hid (plus4 ⟨X1, Y1, Z1, T1⟩ ⟨X2, Y2, Z2, T2⟩ = ⟨X, Y, Z, T⟩) := by
    show _ = _
    rw [← HX.out, ← HY.out, ← HZ.out, ← HT.out, ← Hh.out, ← Hf.out, ← Hg.out, ← Hi.out, ← He.out, ← He0.out, ← Hc.out, ← Hc0.out, ← Hu.out, ← Hb.out, ← Ht1.out, ← Ht2.out, ← Ha.out, ← Hs1.out, ← Hs2.out, hkd]
    rfl
  rw [He4.out]
  clear hkd
  go_enter Tryd.func56, Tryd.ntmps56
  go_upto_region 1 with fail
  have hK := ((((Kp.nil w).alloc (PA ⟨X1, Y1, Z1, T1⟩) 47).alloc (PA ⟨X2, Y2, Z2, T2⟩) 47).alloc (numA k) 35).alloc (PA ⟨0, 0, 0, 0⟩) 47
  rw [World.size_alloc, World.size_alloc, World.size_alloc] at hK
  generalize (((w.alloc (.cells (PA ⟨X1, Y1, Z1, T1⟩) 47)).alloc (.cells (PA ⟨X2, Y2, Z2, T2⟩) 47)).alloc (.cells (numA k) 35)).alloc (.cells (PA ⟨0, 0, 0, 0⟩) 47) = W at *
  obtain ⟨bP, HbP⟩ : ∃ b, Hid (w.heap.size = b) := ⟨_, rfl⟩
  obtain ⟨bQ, HbQ⟩ : ∃ b, Hid (bP + 1 = b) := ⟨_, rfl⟩
  obtain ⟨bK, HbK⟩ : ∃ b, Hid (bQ + 1 = b) := ⟨_, rfl⟩
  obtain ⟨bR, HbR⟩ : ∃ b, Hid (bK + 1 = b) := ⟨_, rfl⟩
  have le_bP : Hid (w.heap.size ≤ bP) := by show _ ≤ _; have := HbP.out; omega
  have le_bQ : Hid (w.heap.size ≤ bQ) := by show _ ≤ _; have := HbP.out; have := HbQ.out; omega
  have le_bK : Hid (w.heap.size ≤ bK) := by show _ ≤ _; have := HbP.out; have := HbQ.out; have := HbK.out; omega
  have le_bR : Hid (w.heap.size ≤ bR) := by show _ ≤ _; have := HbP.out; have := HbQ.out; have := HbK.out; have := HbR.out; omega
  have ne_bP_bQ : Hid (bP ≠ bQ) := by show _ ≠ _; have := HbQ.out; omega
  have ne_bP_bK : Hid (bP ≠ bK) := by show _ ≠ _; have := HbQ.out; have := HbK.out; omega
  have ne_bQ_bK : Hid (bQ ≠ bK) := by show _ ≠ _; have := HbK.out; omega
  have ne_bP_bR : Hid (bP ≠ bR) := by show _ ≠ _; have := HbQ.out; have := HbK.out; have := HbR.out; omega
  have ne_bQ_bR : Hid (bQ ≠ bR) := by show _ ≠ _; have := HbK.out; have := HbR.out; omega
  have ne_bK_bR : Hid (bK ≠ bR) := by show _ ≠ _; have := HbR.out; omega
  rw [HbP.out, HbQ.out, HbK.out, HbR.out] at hK ⊢
  refine wp_region_told 80 (by kernel_rfl) (by kernel_rfl) (by rfl) (factPl1 bP bQ X1 Y1 X2 Y2 s1 s2 a) (fun L vs => MkN 1 [(bR, PA ⟨0, 0, 0, 0⟩, 47), (bK, numA k, 35), (bQ, PA ⟨X2, Y2, Z2, T2⟩, 47), (bP, PA ⟨X1, Y1, Z1, T1⟩, 47)] w (fun _ => numA 0) (fun _ => numA a) (fun _ => 35) (fun i => L (11 + i)) (fun i => L (12 + i)) (fun i => vs (11 + i))) (fun _ => MkN.drew hK (fun _ _ => rfl)) ?_ ?_
  · intro L vs ac wc i o hF hLi ho hd K hK
    rcases i with _ | _ | _ | _ | _ | _ | _ | _ | _ | _ | _ | _ | _ | i
    · have ho' := ho
      obtain rfl := Option.some.inj ho
      have f3 : ac.tmps.getD 3 undef = .pointer (some ⟨bP, 0, none⟩) := slott hF 0 hLi 3 (by kernel_rfl)
      refine step_do ho' (wanted_free rfl) ?_
      unfold Oper.wp
      go_simp
      exact hK _ _ (.inr rfl) (hF.j.congr (fun i hi => if_off (by decide) hi) (fun i hi => if_off (by decide) hi) (fun i hi => if_off (by decide) hi))
    · have ho' := ho
      obtain rfl := Option.some.inj ho
      have f15 : ac.tmps.getD 15 undef = .pointer (some ⟨bP, 4, none⟩) := (factt hF hd 0 rfl rfl (by kernel_rfl)).1.trans (factt hF hd 0 rfl rfl (by kernel_rfl)).2
      refine step_do ho' (wanted_free rfl) ?_
      exact wp_load_part 1 (by decide) (.tmp 15) rfl bP f15 (hF.j.1.at bP (PA ⟨X1, Y1, Z1, T1⟩) 47 (.tail _ (.tail _ (.tail _ (.head _))))) (hK _ _ (.inr rfl) (hF.j.congr (fun i hi => if_off (by decide) hi) (fun i hi => if_off (by decide) hi) (fun i hi => if_off (by decide) hi)))
    · have ho' := ho
      obtain rfl := Option.some.inj ho
      have f3 : ac.tmps.getD 3 undef = .pointer (some ⟨bP, 0, none⟩) := slott hF 2 hLi 3 (by kernel_rfl)
      refine step_do ho' (wanted_free rfl) ?_
      unfold Oper.wp
      go_simp
      exact hK _ _ (.inr rfl) (hF.j.congr (fun i hi => if_off (by decide) hi) (fun i hi => if_off (by decide) hi) (fun i hi => if_off (by decide) hi))
    · have ho' := ho
      obtain rfl := Option.some.inj ho
      have f17 : ac.tmps.getD 17 undef = .pointer (some ⟨bP, 0, none⟩) := (factt hF hd 2 rfl rfl (by kernel_rfl)).1.trans (factt hF hd 2 rfl rfl (by kernel_rfl)).2
      refine step_do ho' (wanted_free rfl) ?_
      exact wp_load_part 0 (by decide) (.tmp 17) rfl bP f17 (hF.j.1.at bP (PA ⟨X1, Y1, Z1, T1⟩) 47 (.tail _ (.tail _ (.tail _ (.head _))))) (hK _ _ (.inr rfl) (hF.j.congr (fun i hi => if_off (by decide) hi) (fun i hi => if_off (by decide) hi) (fun i hi => if_off (by decide) hi)))
    · have ho' := ho
      obtain rfl := Option.some.inj ho
      have f16 : ac.tmps.getD 16 undef = .agg (numA Y1) := (factt hF hd 1 rfl rfl (by kernel_rfl)).1.trans (factt hF hd 1 rfl rfl (by kernel_rfl)).2
      have f18 : ac.tmps.getD 18 undef = .agg (numA X1) := (factt hF hd 3 rfl rfl (by kernel_rfl)).1.trans (factt hF hd 3 rfl rfl (by kernel_rfl)).2
      refine step_do ho' (wanted_free rfl) ?_
      unfold Oper.wp
      go_simp
      refine (fsub_at hY1.out hX1.out Hs1.out _).mono ?_
      rintro e w' ⟨rfl, hB⟩
      exact hK _ _ (.inr rfl) ((hF.j.congr (fun i hi => if_off (by decide) hi) (fun i hi => if_off (by decide) hi) (fun i hi => if_off (by decide) hi)).below hB)
    · have ho' := ho
      obtain rfl := Option.some.inj ho
      have f4 : ac.tmps.getD 4 undef = .pointer (some ⟨bQ, 0, none⟩) := slott hF 5 hLi 4 (by kernel_rfl)
      refine step_do ho' (wanted_free rfl) ?_
      unfold Oper.wp
      go_simp
      exact hK _ _ (.inr rfl) (hF.j.congr (fun i hi => if_off (by decide) hi) (fun i hi => if_off (by decide) hi) (fun i hi => if_off (by decide) hi))
    · have ho' := ho
      obtain rfl := Option.some.inj ho
      have f20 : ac.tmps.getD 20 undef = .pointer (some ⟨bQ, 4, none⟩) := (factt hF hd 5 rfl rfl (by kernel_rfl)).1.trans (factt hF hd 5 rfl rfl (by kernel_rfl)).2
      refine step_do ho' (wanted_free rfl) ?_
      exact wp_load_part 1 (by decide) (.tmp 20) rfl bQ f20 (hF.j.1.at bQ (PA ⟨X2, Y2, Z2, T2⟩) 47 (.tail _ (.tail _ (.head _)))) (hK _ _ (.inr rfl) (hF.j.congr (fun i hi => if_off (by decide) hi) (fun i hi => if_off (by decide) hi) (fun i hi => if_off (by decide) hi)))
    · have ho' := ho
      obtain rfl := Option.some.inj ho
      have f4 : ac.tmps.getD 4 undef = .pointer (some ⟨bQ, 0, none⟩) := slott hF 7 hLi 4 (by kernel_rfl)
      refine step_do ho' (wanted_free rfl) ?_
      unfold Oper.wp
      go_simp
      exact hK _ _ (.inr rfl) (hF.j.congr (fun i hi => if_off (by decide) hi) (fun i hi => if_off (by decide) hi) (fun i hi => if_off (by decide) hi))
    · have ho' := ho
      obtain rfl := Option.some.inj ho
      have f22 : ac.tmps.getD 22 undef = .pointer (some ⟨bQ, 0, none⟩) := (factt hF hd 7 rfl rfl (by kernel_rfl)).1.trans (factt hF hd 7 rfl rfl (by kernel_rfl)).2
      refine step_do ho' (wanted_free rfl) ?_
      exact wp_load_part 0 (by decide) (.tmp 22) rfl bQ f22 (hF.j.1.at bQ (PA ⟨X2, Y2, Z2, T2⟩) 47 (.tail _ (.tail _ (.head _)))) (hK _ _ (.inr rfl) (hF.j.congr (fun i hi => if_off (by decide) hi) (fun i hi => if_off (by decide) hi) (fun i hi => if_off (by decide) hi)))
    · have ho' := ho
      obtain rfl := Option.some.inj ho
      have f21 : ac.tmps.getD 21 undef = .agg (numA Y2) := (factt hF hd 6 rfl rfl (by kernel_rfl)).1.trans (factt hF hd 6 rfl rfl (by kernel_rfl)).2
      have f23 : ac.tmps.getD 23 undef = .agg (numA X2) := (factt hF hd 8 rfl rfl (by kernel_rfl)).1.trans (factt hF hd 8 rfl rfl (by kernel_rfl)).2
      refine step_do ho' (wanted_free rfl) ?_
      unfold Oper.wp
      go_simp
      refine (fsub_at hY2.out hX2.out Hs2.out _).mono ?_
      rintro e w' ⟨rfl, hB⟩
      exact hK _ _ (.inr rfl) ((hF.j.congr (fun i hi => if_off (by decide) hi) (fun i hi => if_off (by decide) hi) (fun i hi => if_off (by decide) hi)).below hB)
    · have ho' := ho
      obtain rfl := Option.some.inj ho
      have f19 : ac.tmps.getD 19 undef = .agg (numA s1) := (factt hF hd 4 rfl rfl (by kernel_rfl)).1.trans (factt hF hd 4 rfl rfl (by kernel_rfl)).2
      have f24 : ac.tmps.getD 24 undef = .agg (numA s2) := (factt hF hd 9 rfl rfl (by kernel_rfl)).1.trans (factt hF hd 9 rfl rfl (by kernel_rfl)).2
      refine step_do ho' (wanted_free rfl) ?_
      unfold Oper.wp
      go_simp
      refine (mul_at hs1.out hs2.out Ha.out _).mono ?_
      rintro e w' ⟨rfl, hB⟩
      exact hK _ _ (.inr rfl) ((hF.j.congr (fun i hi => if_off (by decide) hi) (fun i hi => if_off (by decide) hi) (fun i hi => if_off (by decide) hi)).below hB)
    · have ho' := ho
      obtain rfl := Option.some.inj ho
      refine step_do ho' (wanted_free rfl) ?_
      have hs := notyett hF 11 hLi 12 rfl (by kernel_rfl)
      unfold Oper.wp
      go_simp
      rw [show (#[.int .u64 0, .int .u64 0, .int .u64 0, .int .u64 0] : Array Value) = numA 0 from rfl]
      exact hK _ _ (.inr ⟨_, rfl⟩) (hF.j.alloc 0 (fun i _ hne => if_oth (k := 0) rfl hne) (fun i hi => if_off (by decide) hi) (fun i _ hne => if_oth (k := 0) rfl hne) rfl hs)
    · have ho' := ho
      obtain rfl := Option.some.inj ho
      have f25 : ac.tmps.getD 25 undef = .agg (numA a) := (factt hF hd 10 rfl rfl (by kernel_rfl)).1.trans (factt hF hd 10 rfl rfl (by kernel_rfl)).2
      refine step_do ho' (wanted_free rfl) ?_
      obtain ⟨fg, gq, hg⟩ := factt hF hd 11 rfl rfl (by kernel_rfl)
      have hm := dep hd 11 (by kernel_rfl)
      have hj := hF.j
      rw [hg] at fg
      have hj2 := hj.at (k := 0) (by decide) hm hg hLi
      refine wp_store_own 35 (.tmp 7) (.tmp 25) rfl gq (numA a) fg f25 hj2.2.2 (numA_sizes _ _) (numA_info _) (numA_one _) rfl ?_
      exact hK undef _ (.inl rfl) (hj.store (k := 0) (by decide) hm hg hLi (numA_sizes _ _) (fun i hi => if_off (by decide) hi) (fun i _ hne => if_oth (k := 0) rfl hne) (fun i hi => if_off (by decide) hi) rfl)
    · cases ho
  intro L vs V1 hL hJ hf
  obtain ⟨g2, hgg2⟩ := hf 11 _ _ rfl rfl
  obtain ⟨le0, apg2, owng2⟩ := hJ.got (k := 0) (by decide) (hL 11 (by decide)) hgg2 (hL 12 (by decide))
  have le_g2 := show Hid _ from le0
  clear le0
  have ne_bR_g2 : Hid (bR ≠ g2) := apg2 (bR, PA ⟨0, 0, 0, 0⟩, 47) (.head _)
  have hK : Kp [(g2, numA a, 35), (bR, PA ⟨0, 0, 0, 0⟩, 47), (bK, numA k, 35), (bQ, PA ⟨X2, Y2, Z2, T2⟩, 47), (bP, PA ⟨X1, Y1, Z1, T1⟩, 47)] w V1 := (hJ.1.cons owng2)
  have e0 : vs 0 = _ := hf 0 _ _ rfl rfl
  have e1 : vs 1 = _ := hf 1 _ _ rfl rfl
  have e2 : vs 2 = _ := hf 2 _ _ rfl rfl
  have e3 : vs 3 = _ := hf 3 _ _ rfl rfl
  have e4 : vs 4 = _ := hf 4 _ _ rfl rfl
  have e5 : vs 5 = _ := hf 5 _ _ rfl rfl
  have e6 : vs 6 = _ := hf 6 _ _ rfl rfl
  have e7 : vs 7 = _ := hf 7 _ _ rfl rfl
  have e8 : vs 8 = _ := hf 8 _ _ rfl rfl
  have e9 : vs 9 = _ := hf 9 _ _ rfl rfl
  have e10 : vs 10 = _ := hf 10 _ _ rfl rfl
  simp only [putAll, Nat.zero_add, Nat.reduceAdd, e0, e1, e2, e3, e4, e5, e6, e7, e8, e9, e10, hgg2, Act.put, List.setIfInBounds_toArray, List.set_cons_succ, List.set_cons_zero]
  clear hJ hf hL e0 e1 e2 e3 e4 e5 e6 e7 e8 e9 e10 hgg2 apg2 owng2
  go_upto_region 2 with fail
  refine wp_region_told 80 (by kernel_rfl) (by kernel_rfl) (by rfl) (factPl2 bP bQ X1 Y1 X2 Y2 t1 t2 b) (fun L vs => MkN 1 [(g2, numA a, 35), (bR, PA ⟨0, 0, 0, 0⟩, 47), (bK, numA k, 35), (bQ, PA ⟨X2, Y2, Z2, T2⟩, 47), (bP, PA ⟨X1, Y1, Z1, T1⟩, 47)] w (fun _ => numA 0) (fun _ => numA b) (fun _ => 35) (fun i => L (11 + i)) (fun i => L (12 + i)) (fun i => vs (11 + i))) (fun _ => MkN.drew hK (fun _ _ => rfl)) ?_ ?_
  · intro L vs ac wc i o hF hLi ho hd K hK
    rcases i with _ | _ | _ | _ | _ | _ | _ | _ | _ | _ | _ | _ | _ | i
    · have ho' := ho
      obtain rfl := Option.some.inj ho
      have f3 : ac.tmps.getD 3 undef = .pointer (some ⟨bP, 0, none⟩) := slott hF 0 hLi 3 (by kernel_rfl)
      refine step_do ho' (wanted_free rfl) ?_
      unfold Oper.wp
      go_simp
      exact hK _ _ (.inr rfl) (hF.j.congr (fun i hi => if_off (by decide) hi) (fun i hi => if_off (by decide) hi) (fun i hi => if_off (by decide) hi))
    · have ho' := ho
      obtain rfl := Option.some.inj ho
      have f26 : ac.tmps.getD 26 undef = .pointer (some ⟨bP, 4, none⟩) := (factt hF hd 0 rfl rfl (by kernel_rfl)).1.trans (factt hF hd 0 rfl rfl (by kernel_rfl)).2
      refine step_do ho' (wanted_free rfl) ?_
      exact wp_load_part 1 (by decide) (.tmp 26) rfl bP f26 (hF.j.1.at bP (PA ⟨X1, Y1, Z1, T1⟩) 47 (.tail _ (.tail _ (.tail _ (.tail _ (.head _)))))) (hK _ _ (.inr rfl) (hF.j.congr (fun i hi => if_off (by decide) hi) (fun i hi => if_off (by decide) hi) (fun i hi => if_off (by decide) hi)))
    · have ho' := ho
      obtain rfl := Option.some.inj ho
      have f3 : ac.tmps.getD 3 undef = .pointer (some ⟨bP, 0, none⟩) := slott hF 2 hLi 3 (by kernel_rfl)
      refine step_do ho' (wanted_free rfl) ?_
      unfold Oper.wp
      go_simp
      exact hK _ _ (.inr rfl) (hF.j.congr (fun i hi => if_off (by decide) hi) (fun i hi => if_off (by decide) hi) (fun i hi => if_off (by decide) hi))
    · have ho' := ho
      obtain rfl := Option.some.inj ho
      have f28 : ac.tmps.getD 28 undef = .pointer (some ⟨bP, 0, none⟩) := (factt hF hd 2 rfl rfl (by kernel_rfl)).1.trans (factt hF hd 2 rfl rfl (by kernel_rfl)).2
      refine step_do ho' (wanted_free rfl) ?_
      exact wp_load_part 0 (by decide) (.tmp 28) rfl bP f28 (hF.j.1.at bP (PA ⟨X1, Y1, Z1, T1⟩) 47 (.tail _ (.tail _ (.tail _ (.tail _ (.head _)))))) (hK _ _ (.inr rfl) (hF.j.congr (fun i hi => if_off (by decide) hi) (fun i hi => if_off (by decide) hi) (fun i hi => if_off (by decide) hi)))
    · have ho' := ho
      obtain rfl := Option.some.inj ho
      have f27 : ac.tmps.getD 27 undef = .agg (numA Y1) := (factt hF hd 1 rfl rfl (by kernel_rfl)).1.trans (factt hF hd 1 rfl rfl (by kernel_rfl)).2
      have f29 : ac.tmps.getD 29 undef = .agg (numA X1) := (factt hF hd 3 rfl rfl (by kernel_rfl)).1.trans (factt hF hd 3 rfl rfl (by kernel_rfl)).2
      refine step_do ho' (wanted_free rfl) ?_
      unfold Oper.wp
      go_simp
      refine (fadd_at hY1.out hX1.out Ht1.out _).mono ?_
      rintro e w' ⟨rfl, hB⟩
      exact hK _ _ (.inr rfl) ((hF.j.congr (fun i hi => if_off (by decide) hi) (fun i hi => if_off (by decide) hi) (fun i hi => if_off (by decide) hi)).below hB)
    · have ho' := ho
      obtain rfl := Option.some.inj ho
      have f4 : ac.tmps.getD 4 undef = .pointer (some ⟨bQ, 0, none⟩) := slott hF 5 hLi 4 (by kernel_rfl)
      refine step_do ho' (wanted_free rfl) ?_
      unfold Oper.wp
      go_simp
      exact hK _ _ (.inr rfl) (hF.j.congr (fun i hi => if_off (by decide) hi) (fun i hi => if_off (by decide) hi) (fun i hi => if_off (by decide) hi))
    · have ho' := ho
      obtain rfl := Option.some.inj ho
      have f31 : ac.tmps.getD 31 undef = .pointer (some ⟨bQ, 4, none⟩) := (factt hF hd 5 rfl rfl (by kernel_rfl)).1.trans (factt hF hd 5 rfl rfl (by kernel_rfl)).2
      refine step_do ho' (wanted_free rfl) ?_
      exact wp_load_part 1 (by decide) (.tmp 31) rfl bQ f31 (hF.j.1.at bQ (PA ⟨X2, Y2, Z2, T2⟩) 47 (.tail _ (.tail _ (.tail _ (.head _))))) (hK _ _ (.inr rfl) (hF.j.congr (fun i hi => if_off (by decide) hi) (fun i hi => if_off (by decide) hi) (fun i hi => if_off (by decide) hi)))
    · have ho' := ho
      obtain rfl := Option.some.inj ho
      have f4 : ac.tmps.getD 4 undef = .pointer (some ⟨bQ, 0, none⟩) := slott hF 7 hLi 4 (by kernel_rfl)
      refine step_do ho' (wanted_free rfl) ?_
      unfold Oper.wp
      go_simp
      exact hK _ _ (.inr rfl) (hF.j.congr (fun i hi => if_off (by decide) hi) (fun i hi => if_off (by decide) hi) (fun i hi => if_off (by decide) hi))
    · have ho' := ho
      obtain rfl := Option.some.inj ho
      have f33 : ac.tmps.getD 33 undef = .pointer (some ⟨bQ, 0, none⟩) := (factt hF hd 7 rfl rfl (by kernel_rfl)).1.trans (factt hF hd 7 rfl rfl (by kernel_rfl)).2
      refine step_do ho' (wanted_free rfl) ?_
      exact wp_load_part 0 (by decide) (.tmp 33) rfl bQ f33 (hF.j.1.at bQ (PA ⟨X2, Y2, Z2, T2⟩) 47 (.tail _ (.tail _ (.tail _ (.head _))))) (hK _ _ (.inr rfl) (hF.j.congr (fun i hi => if_off (by decide) hi) (fun i hi => if_off (by decide) hi) (fun i hi => if_off (by decide) hi)))
    · have ho' := ho
      obtain rfl := Option.some.inj ho
      have f32 : ac.tmps.getD 32 undef = .agg (numA Y2) := (factt hF hd 6 rfl rfl (by kernel_rfl)).1.trans (factt hF hd 6 rfl rfl (by kernel_rfl)).2
      have f34 : ac.tmps.getD 34 undef = .agg (numA X2) := (factt hF hd 8 rfl rfl (by kernel_rfl)).1.trans (factt hF hd 8 rfl rfl (by kernel_rfl)).2
      refine step_do ho' (wanted_free rfl) ?_
      unfold Oper.wp
      go_simp
      refine (fadd_at hY2.out hX2.out Ht2.out _).mono ?_
      rintro e w' ⟨rfl, hB⟩
      exact hK _ _ (.inr rfl) ((hF.j.congr (fun i hi => if_off (by decide) hi) (fun i hi => if_off (by decide) hi) (fun i hi => if_off (by decide) hi)).below hB)
    · have ho' := ho
      obtain rfl := Option.some.inj ho
      have f30 : ac.tmps.getD 30 undef = .agg (numA t1) := (factt hF hd 4 rfl rfl (by kernel_rfl)).1.trans (factt hF hd 4 rfl rfl (by kernel_rfl)).2
      have f35 : ac.tmps.getD 35 undef = .agg (numA t2) := (factt hF hd 9 rfl rfl (by kernel_rfl)).1.trans (factt hF hd 9 rfl rfl (by kernel_rfl)).2
      refine step_do ho' (wanted_free rfl) ?_
      unfold Oper.wp
      go_simp
      refine (mul_at ht1.out ht2.out Hb.out _).mono ?_
      rintro e w' ⟨rfl, hB⟩
      exact hK _ _ (.inr rfl) ((hF.j.congr (fun i hi => if_off (by decide) hi) (fun i hi => if_off (by decide) hi) (fun i hi => if_off (by decide) hi)).below hB)
    · have ho' := ho
      obtain rfl := Option.some.inj ho
      refine step_do ho' (wanted_free rfl) ?_
      have hs := notyett hF 11 hLi 12 rfl (by kernel_rfl)
      unfold Oper.wp
      go_simp
      rw [show (#[.int .u64 0, .int .u64 0, .int .u64 0, .int .u64 0] : Array Value) = numA 0 from rfl]
      exact hK _ _ (.inr ⟨_, rfl⟩) (hF.j.alloc 0 (fun i _ hne => if_oth (k := 0) rfl hne) (fun i hi => if_off (by decide) hi) (fun i _ hne => if_oth (k := 0) rfl hne) rfl hs)
    · have ho' := ho
      obtain rfl := Option.some.inj ho
      have f36 : ac.tmps.getD 36 undef = .agg (numA b) := (factt hF hd 10 rfl rfl (by kernel_rfl)).1.trans (factt hF hd 10 rfl rfl (by kernel_rfl)).2
      refine step_do ho' (wanted_free rfl) ?_
      obtain ⟨fg, gq, hg⟩ := factt hF hd 11 rfl rfl (by kernel_rfl)
      have hm := dep hd 11 (by kernel_rfl)
      have hj := hF.j
      rw [hg] at fg
      have hj2 := hj.at (k := 0) (by decide) hm hg hLi
      refine wp_store_own 35 (.tmp 8) (.tmp 36) rfl gq (numA b) fg f36 hj2.2.2 (numA_sizes _ _) (numA_info _) (numA_one _) rfl ?_
      exact hK undef _ (.inl rfl) (hj.store (k := 0) (by decide) hm hg hLi (numA_sizes _ _) (fun i hi => if_off (by decide) hi) (fun i _ hne => if_oth (k := 0) rfl hne) (fun i hi => if_off (by decide) hi) rfl)
    · cases ho
  intro L vs V3 hL hJ hf
  obtain ⟨g4, hgg4⟩ := hf 11 _ _ rfl rfl
  obtain ⟨le0, apg4, owng4⟩ := hJ.got (k := 0) (by decide) (hL 11 (by decide)) hgg4 (hL 12 (by decide))
  have le_g4 := show Hid _ from le0
  clear le0
  have ne_bR_g4 : Hid (bR ≠ g4) := apg4 (bR, PA ⟨0, 0, 0, 0⟩, 47) (.tail _ (.head _))
  have hK : Kp [(g4, numA b, 35), (g2, numA a, 35), (bR, PA ⟨0, 0, 0, 0⟩, 47), (bK, numA k, 35), (bQ, PA ⟨X2, Y2, Z2, T2⟩, 47), (bP, PA ⟨X1, Y1, Z1, T1⟩, 47)] w V3 := (hJ.1.cons owng4)
  have e0 : vs 0 = _ := hf 0 _ _ rfl rfl
  have e1 : vs 1 = _ := hf 1 _ _ rfl rfl
  have e2 : vs 2 = _ := hf 2 _ _ rfl rfl
  have e3 : vs 3 = _ := hf 3 _ _ rfl rfl
  have e4 : vs 4 = _ := hf 4 _ _ rfl rfl
  have e5 : vs 5 = _ := hf 5 _ _ rfl rfl
  have e6 : vs 6 = _ := hf 6 _ _ rfl rfl
  have e7 : vs 7 = _ := hf 7 _ _ rfl rfl
  have e8 : vs 8 = _ := hf 8 _ _ rfl rfl
  have e9 : vs 9 = _ := hf 9 _ _ rfl rfl
  have e10 : vs 10 = _ := hf 10 _ _ rfl rfl
  simp only [putAll, Nat.zero_add, Nat.reduceAdd, e0, e1, e2, e3, e4, e5, e6, e7, e8, e9, e10, hgg4, Act.put, List.setIfInBounds_toArray, List.set_cons_succ, List.set_cons_zero]
  clear hJ hf hL e0 e1 e2 e3 e4 e5 e6 e7 e8 e9 e10 hgg4 apg4 owng4
  go_upto_region 3 with fail
  refine wp_region_told 80 (by kernel_rfl) (by kernel_rfl) (by rfl) (factPl3 bP bQ T1 T2 k u c0) (fun L vs => MkN 1 [(g4, numA b, 35), (g2, numA a, 35), (bR, PA ⟨0, 0, 0, 0⟩, 47), (bK, numA k, 35), (bQ, PA ⟨X2, Y2, Z2, T2⟩, 47), (bP, PA ⟨X1, Y1, Z1, T1⟩, 47)] w (fun _ => numA 0) (fun _ => numA c0) (fun _ => 35) (fun i => L (7 + i)) (fun i => L (8 + i)) (fun i => vs (7 + i))) (fun _ => MkN.drew hK (fun _ _ => rfl)) ?_ ?_
  · intro L vs ac wc i o hF hLi ho hd K hK
    rcases i with _ | _ | _ | _ | _ | _ | _ | _ | _ | i
    · have ho' := ho
      obtain rfl := Option.some.inj ho
      have f3 : ac.tmps.getD 3 undef = .pointer (some ⟨bP, 0, none⟩) := slott hF 0 hLi 3 (by kernel_rfl)
      refine step_do ho' (wanted_free rfl) ?_
      unfold Oper.wp
      go_simp
      exact hK _ _ (.inr rfl) (hF.j.congr (fun i hi => if_off (by decide) hi) (fun i hi => if_off (by decide) hi) (fun i hi => if_off (by decide) hi))
    · have ho' := ho
      obtain rfl := Option.some.inj ho
      have f37 : ac.tmps.getD 37 undef = .pointer (some ⟨bP, 12, none⟩) := (factt hF hd 0 rfl rfl (by kernel_rfl)).1.trans (factt hF hd 0 rfl rfl (by kernel_rfl)).2
      refine step_do ho' (wanted_free rfl) ?_
      exact wp_load_part 3 (by decide) (.tmp 37) rfl bP f37 (hF.j.1.at bP (PA ⟨X1, Y1, Z1, T1⟩) 47 (.tail _ (.tail _ (.tail _ (.tail _ (.tail _ (.head _))))))) (hK _ _ (.inr rfl) (hF.j.congr (fun i hi => if_off (by decide) hi) (fun i hi => if_off (by decide) hi) (fun i hi => if_off (by decide) hi)))
    · have ho' := ho
      obtain rfl := Option.some.inj ho
      have f5 : ac.tmps.getD 5 undef = .pointer (some ⟨bK, 0, none⟩) := slott hF 2 hLi 5 (by kernel_rfl)
      refine step_do ho' (wanted_free rfl) ?_
      exact wp_load_own 35 (.tmp 5) rfl bK f5 (numA k) _ 35 (hF.j.1.at bK (numA k) 35 (.tail _ (.tail _ (.tail _ (.head _))))) Tryd.underlying35 rfl (numA_info _) (hK _ _ (.inr rfl) (hF.j.congr (fun i hi => if_off (by decide) hi) (fun i hi => if_off (by decide) hi) (fun i hi => if_off (by decide) hi)))
    · have ho' := ho
      obtain rfl := Option.some.inj ho
      have f38 : ac.tmps.getD 38 undef = .agg (numA T1) := (factt hF hd 1 rfl rfl (by kernel_rfl)).1.trans (factt hF hd 1 rfl rfl (by kernel_rfl)).2
      have f39 : ac.tmps.getD 39 undef = .agg (numA k) := (factt hF hd 2 rfl rfl (by kernel_rfl)).1.trans (factt hF hd 2 rfl rfl (by kernel_rfl)).2
      refine step_do ho' (wanted_free rfl) ?_
      unfold Oper.wp
      go_simp
      refine (mul_at hT1.out hk.out Hu.out _).mono ?_
      rintro e w' ⟨rfl, hB⟩
      exact hK _ _ (.inr rfl) ((hF.j.congr (fun i hi => if_off (by decide) hi) (fun i hi => if_off (by decide) hi) (fun i hi => if_off (by decide) hi)).below hB)
    · have ho' := ho
      obtain rfl := Option.some.inj ho
      have f4 : ac.tmps.getD 4 undef = .pointer (some ⟨bQ, 0, none⟩) := slott hF 4 hLi 4 (by kernel_rfl)
      refine step_do ho' (wanted_free rfl) ?_
      unfold Oper.wp
      go_simp
      exact hK _ _ (.inr rfl) (hF.j.congr (fun i hi => if_off (by decide) hi) (fun i hi => if_off (by decide) hi) (fun i hi => if_off (by decide) hi))
    · have ho' := ho
      obtain rfl := Option.some.inj ho
      have f41 : ac.tmps.getD 41 undef = .pointer (some ⟨bQ, 12, none⟩) := (factt hF hd 4 rfl rfl (by kernel_rfl)).1.trans (factt hF hd 4 rfl rfl (by kernel_rfl)).2
      refine step_do ho' (wanted_free rfl) ?_
      exact wp_load_part 3 (by decide) (.tmp 41) rfl bQ f41 (hF.j.1.at bQ (PA ⟨X2, Y2, Z2, T2⟩) 47 (.tail _ (.tail _ (.tail _ (.tail _ (.head _)))))) (hK _ _ (.inr rfl) (hF.j.congr (fun i hi => if_off (by decide) hi) (fun i hi => if_off (by decide) hi) (fun i hi => if_off (by decide) hi)))
    · have ho' := ho
      obtain rfl := Option.some.inj ho
      have f40 : ac.tmps.getD 40 undef = .agg (numA u) := (factt hF hd 3 rfl rfl (by kernel_rfl)).1.trans (factt hF hd 3 rfl rfl (by kernel_rfl)).2
      have f42 : ac.tmps.getD 42 undef = .agg (numA T2) := (factt hF hd 5 rfl rfl (by kernel_rfl)).1.trans (factt hF hd 5 rfl rfl (by kernel_rfl)).2
      refine step_do ho' (wanted_free rfl) ?_
      unfold Oper.wp
      go_simp
      refine (mul_at hu.out hT2.out Hc0.out _).mono ?_
      rintro e w' ⟨rfl, hB⟩
      exact hK _ _ (.inr rfl) ((hF.j.congr (fun i hi => if_off (by decide) hi) (fun i hi => if_off (by decide) hi) (fun i hi => if_off (by decide) hi)).below hB)
    · have ho' := ho
      obtain rfl := Option.some.inj ho
      refine step_do ho' (wanted_free rfl) ?_
      have hs := notyett hF 7 hLi 8 rfl (by kernel_rfl)
      unfold Oper.wp
      go_simp
      rw [show (#[.int .u64 0, .int .u64 0, .int .u64 0, .int .u64 0] : Array Value) = numA 0 from rfl]
      exact hK _ _ (.inr ⟨_, rfl⟩) (hF.j.alloc 0 (fun i _ hne => if_oth (k := 0) rfl hne) (fun i hi => if_off (by decide) hi) (fun i _ hne => if_oth (k := 0) rfl hne) rfl hs)
    · have ho' := ho
      obtain rfl := Option.some.inj ho
      have f43 : ac.tmps.getD 43 undef = .agg (numA c0) := (factt hF hd 6 rfl rfl (by kernel_rfl)).1.trans (factt hF hd 6 rfl rfl (by kernel_rfl)).2
      refine step_do ho' (wanted_free rfl) ?_
      obtain ⟨fg, gq, hg⟩ := factt hF hd 7 rfl rfl (by kernel_rfl)
      have hm := dep hd 7 (by kernel_rfl)
      have hj := hF.j
      rw [hg] at fg
      have hj2 := hj.at (k := 0) (by decide) hm hg hLi
      refine wp_store_own 35 (.tmp 9) (.tmp 43) rfl gq (numA c0) fg f43 hj2.2.2 (numA_sizes _ _) (numA_info _) (numA_one _) rfl ?_
      exact hK undef _ (.inl rfl) (hj.store (k := 0) (by decide) hm hg hLi (numA_sizes _ _) (fun i hi => if_off (by decide) hi) (fun i _ hne => if_oth (k := 0) rfl hne) (fun i hi => if_off (by decide) hi) rfl)
    · cases ho
  intro L vs V5 hL hJ hf
  obtain ⟨g6, hgg6⟩ := hf 7 _ _ rfl rfl
  obtain ⟨le0, apg6, owng6⟩ := hJ.got (k := 0) (by decide) (hL 7 (by decide)) hgg6 (hL 8 (by decide))
  have le_g6 := show Hid _ from le0
  clear le0
  have ne_g4_g6 : Hid (g4 ≠ g6) := apg6 (g4, numA b, 35) (.head _)
  have ne_g2_g6 : Hid (g2 ≠ g6) := apg6 (g2, numA a, 35) (.tail _ (.head _))
  have ne_bR_g6 : Hid (bR ≠ g6) := apg6 (bR, PA ⟨0, 0, 0, 0⟩, 47) (.tail _ (.tail _ (.head _)))
  have ne_bK_g6 : Hid (bK ≠ g6) := apg6 (bK, numA k, 35) (.tail _ (.tail _ (.tail _ (.head _))))
  have ne_bQ_g6 : Hid (bQ ≠ g6) := apg6 (bQ, PA ⟨X2, Y2, Z2, T2⟩, 47) (.tail _ (.tail _ (.tail _ (.tail _ (.head _)))))
  have ne_bP_g6 : Hid (bP ≠ g6) := apg6 (bP, PA ⟨X1, Y1, Z1, T1⟩, 47) (.tail _ (.tail _ (.tail _ (.tail _ (.tail _ (.head _))))))
  have hK : Kp [(g6, numA c0, 35), (g4, numA b, 35), (g2, numA a, 35), (bR, PA ⟨0, 0, 0, 0⟩, 47), (bK, numA k, 35), (bQ, PA ⟨X2, Y2, Z2, T2⟩, 47), (bP, PA ⟨X1, Y1, Z1, T1⟩, 47)] w V5 := (hJ.1.cons owng6)
  have e0 : vs 0 = _ := hf 0 _ _ rfl rfl
  have e1 : vs 1 = _ := hf 1 _ _ rfl rfl
  have e2 : vs 2 = _ := hf 2 _ _ rfl rfl
  have e3 : vs 3 = _ := hf 3 _ _ rfl rfl
  have e4 : vs 4 = _ := hf 4 _ _ rfl rfl
  have e5 : vs 5 = _ := hf 5 _ _ rfl rfl
  have e6 : vs 6 = _ := hf 6 _ _ rfl rfl
  simp only [putAll, Nat.zero_add, Nat.reduceAdd, e0, e1, e2, e3, e4, e5, e6, hgg6, Act.put, List.setIfInBounds_toArray, List.set_cons_succ, List.set_cons_zero]
  clear hJ hf hL e0 e1 e2 e3 e4 e5 e6 hgg6 apg6 owng6
  go_upto_region 4 with fail
  go_wp2_with (first
    | refine wpList_load_own (by rfl) 35 (.tmp 9) (by rfl) g6 (by rfl) (numA c0) _ (hK.at g6 (numA c0) 35 (.head _)) Tryd.underlying35 (by rfl) (numA_info _) ?_
    | refine wpList_load_own (by rfl) 35 (.tmp 9) (by rfl) g6 (by rfl) (numA c0) _ (hK.at g6 (numA c0) 35 (.head _)) Tryd.underlying35 (by rfl) (numA_info _) ?_)
  refine (fadd_at hc0.out hc0.out Hc.out _).mono ?_
  rintro e V7 ⟨rfl, bw⟩
  have hK := hK.below bw
  clear bw
  go_upto_region 5 with (refine wpList_store_own (by rfl) 35 (.tmp 9) (.tmp 46) (by rfl) g6 0 (numA c) (by rfl) (by rfl) (hK.at g6 (numA c0) 35 (.head _)) (Nat.le_refl _) (numA_info _) (numA_one _) (by rfl) ?_)
  have hK : Kp [(g6, numA c0, 35), (g4, numA b, 35), (g2, numA a, 35), (bR, PA ⟨0, 0, 0, 0⟩, 47), (bK, numA k, 35), (bQ, PA ⟨X2, Y2, Z2, T2⟩, 47), (bP, PA ⟨X1, Y1, Z1, T1⟩, 47)] w V7 := (((((((hK.none.cons (hK.at bP (PA ⟨X1, Y1, Z1, T1⟩) 47 (.tail _ (.tail _ (.tail _ (.tail _ (.tail _ (.tail _ (.head _))))))))).cons (hK.at bQ (PA ⟨X2, Y2, Z2, T2⟩) 47 (.tail _ (.tail _ (.tail _ (.tail _ (.tail _ (.head _)))))))).cons (hK.at bK (numA k) 35 (.tail _ (.tail _ (.tail _ (.tail _ (.head _))))))).cons (hK.at bR (PA ⟨0, 0, 0, 0⟩) 47 (.tail _ (.tail _ (.tail _ (.head _)))))).cons (hK.at g2 (numA a) 35 (.tail _ (.tail _ (.head _))))).cons (hK.at g4 (numA b) 35 (.tail _ (.head _)))).cons (hK.at g6 (numA c0) 35 (.head _)))
  have hK := Kp.set (A' := numA c) hK (by simp only [List.forall_mem_cons, List.not_mem_nil, false_implies, implies_true, and_true]; exact ⟨ne_g4_g6.out, ne_g2_g6.out, ne_bR_g6.out, ne_bK_g6.out, ne_bQ_g6.out, ne_bP_g6.out⟩) le_g6.out (numA_sizes _ _)
  generalize V7.setCells g6 0 (numA c).toList = V8 at *
  go_wp2_with (first
    | refine wpList_load_part (by rfl) 2 (by decide) (.tmp 47) (by rfl) bP (by rfl) (hK.at bP (PA ⟨X1, Y1, Z1, T1⟩) 47 (.tail _ (.tail _ (.tail _ (.tail _ (.tail _ (.tail _ (.head _)))))))) ?_
    | refine wpList_load_part (by rfl) 2 (by decide) (.tmp 49) (by rfl) bQ (by rfl) (hK.at bQ (PA ⟨X2, Y2, Z2, T2⟩) 47 (.tail _ (.tail _ (.tail _ (.tail _ (.tail _ (.head _))))))) ?_)
  refine (mul_at hZ1.out hZ2.out He0.out _).mono ?_
  rintro e V9 ⟨rfl, bw⟩
  have hK := hK.below bw
  clear bw
  go_upto_region 6 with (refine wpList_store_new (by rfl) 35 (.tmp 10) (.tmp 51) (by rfl) _ (numA e0) (by rfl) (by rfl) (numA_info _) (lit4_size _ _ _ _ _) (numA_one _) (by rfl) ?_)
  have lt_g6 := (hK.at g6 (numA c) 35 (.head _)).lt
  have lt_g4 := (hK.at g4 (numA b) 35 (.tail _ (.head _))).lt
  have lt_g2 := (hK.at g2 (numA a) 35 (.tail _ (.tail _ (.head _)))).lt
  have lt_bR := (hK.at bR (PA ⟨0, 0, 0, 0⟩) 47 (.tail _ (.tail _ (.tail _ (.head _))))).lt
  have lt_bK := (hK.at bK (numA k) 35 (.tail _ (.tail _ (.tail _ (.tail _ (.head _)))))).lt
  have lt_bQ := (hK.at bQ (PA ⟨X2, Y2, Z2, T2⟩) 47 (.tail _ (.tail _ (.tail _ (.tail _ (.tail _ (.head _))))))).lt
  have lt_bP := (hK.at bP (PA ⟨X1, Y1, Z1, T1⟩) 47 (.tail _ (.tail _ (.tail _ (.tail _ (.tail _ (.tail _ (.head _)))))))).lt
  have le_b10 := show Hid _ from hK.2.size
  have hK := hK.alloc (numA e0) 35
  generalize V9.alloc (.cells (numA e0) 35) = V11 at *
  obtain ⟨b10, Hb10⟩ : ∃ b, Hid (V9.heap.size = b) := ⟨_, rfl⟩
  have ne_g6_b10 : Hid (g6 ≠ b10) := by show _ ≠ _; rw [← Hb10.out]; exact Nat.ne_of_lt lt_g6
  have ne_g4_b10 : Hid (g4 ≠ b10) := by show _ ≠ _; rw [← Hb10.out]; exact Nat.ne_of_lt lt_g4
  have ne_g2_b10 : Hid (g2 ≠ b10) := by show _ ≠ _; rw [← Hb10.out]; exact Nat.ne_of_lt lt_g2
  have ne_bR_b10 : Hid (bR ≠ b10) := by show _ ≠ _; rw [← Hb10.out]; exact Nat.ne_of_lt lt_bR
  have ne_bK_b10 : Hid (bK ≠ b10) := by show _ ≠ _; rw [← Hb10.out]; exact Nat.ne_of_lt lt_bK
  have ne_bQ_b10 : Hid (bQ ≠ b10) := by show _ ≠ _; rw [← Hb10.out]; exact Nat.ne_of_lt lt_bQ
  have ne_bP_b10 : Hid (bP ≠ b10) := by show _ ≠ _; rw [← Hb10.out]; exact Nat.ne_of_lt lt_bP
  have le_b10 : Hid (w.heap.size ≤ b10) := by show _ ≤ _; rw [← Hb10.out]; exact le_b10.out
  rw [Hb10.out] at hK ⊢
  clear lt_g6 lt_g4 lt_g2 lt_bR lt_bK lt_bQ lt_bP
  go_wp2_with (first
    | refine wpList_load_own (by rfl) 35 (.tmp 10) (by rfl) b10 (by rfl) (numA e0) _ (hK.at b10 (numA e0) 35 (.head _)) Tryd.underlying35 (by rfl) (numA_info _) ?_
    | refine wpList_load_own (by rfl) 35 (.tmp 10) (by rfl) b10 (by rfl) (numA e0) _ (hK.at b10 (numA e0) 35 (.head _)) Tryd.underlying35 (by rfl) (numA_info _) ?_)
  refine (fadd_at he0.out he0.out He.out _).mono ?_
  rintro e V12 ⟨rfl, bw⟩
  have hK := hK.below bw
  clear bw
  go_upto_region 7 with (refine wpList_store_own (by rfl) 35 (.tmp 10) (.tmp 54) (by rfl) b10 0 (numA e) (by rfl) (by rfl) (hK.at b10 (numA e0) 35 (.head _)) (Nat.le_refl _) (numA_info _) (numA_one _) (by rfl) ?_)
  have hK : Kp [(b10, numA e0, 35), (g6, numA c, 35), (g4, numA b, 35), (g2, numA a, 35), (bR, PA ⟨0, 0, 0, 0⟩, 47), (bK, numA k, 35), (bQ, PA ⟨X2, Y2, Z2, T2⟩, 47), (bP, PA ⟨X1, Y1, Z1, T1⟩, 47)] w V12 := ((((((((hK.none.cons (hK.at bP (PA ⟨X1, Y1, Z1, T1⟩) 47 (.tail _ (.tail _ (.tail _ (.tail _ (.tail _ (.tail _ (.tail _ (.head _)))))))))).cons (hK.at bQ (PA ⟨X2, Y2, Z2, T2⟩) 47 (.tail _ (.tail _ (.tail _ (.tail _ (.tail _ (.tail _ (.head _))))))))).cons (hK.at bK (numA k) 35 (.tail _ (.tail _ (.tail _ (.tail _ (.tail _ (.head _)))))))).cons (hK.at bR (PA ⟨0, 0, 0, 0⟩) 47 (.tail _ (.tail _ (.tail _ (.tail _ (.head _))))))).cons (hK.at g2 (numA a) 35 (.tail _ (.tail _ (.tail _ (.head _)))))).cons (hK.at g4 (numA b) 35 (.tail _ (.tail _ (.head _))))).cons (hK.at g6 (numA c) 35 (.tail _ (.head _)))).cons (hK.at b10 (numA e0) 35 (.head _)))
  have hK := Kp.set (A' := numA e) hK (by simp only [List.forall_mem_cons, List.not_mem_nil, false_implies, implies_true, and_true]; exact ⟨ne_g6_b10.out, ne_g4_b10.out, ne_g2_b10.out, ne_bR_b10.out, ne_bK_b10.out, ne_bQ_b10.out, ne_bP_b10.out⟩) le_b10.out (numA_sizes _ _)
  generalize V12.setCells b10 0 (numA e).toList = V13 at *
  obtain ⟨Af14, Af14_0, Af14_1, Af14_2, Af14_3⟩ : ∃ qf : Nat → Array Value, Hid (qf 0 = numA h) ∧ Hid (qf 1 = numA f) ∧ Hid (qf 2 = numA g) ∧ Hid (qf 3 = numA i) := ⟨fun qi => ([numA h, numA f, numA g, numA i] : List (Array Value)).getD qi #[], by show _ = _; simp, by show _ = _; simp, by show _ = _; simp, by show _ = _; simp⟩
  refine wp_region_told 80 (by kernel_rfl) (by kernel_rfl) (by rfl) (factPl7 a b c e h f g i) (fun L vs => MkN 4 [(b10, numA e, 35), (g6, numA c, 35), (g4, numA b, 35), (g2, numA a, 35), (bR, PA ⟨0, 0, 0, 0⟩, 47), (bK, numA k, 35), (bQ, PA ⟨X2, Y2, Z2, T2⟩, 47), (bP, PA ⟨X1, Y1, Z1, T1⟩, 47)] w (fun _ => numA 0) (Af14) (fun _ => 35) (fun i => L (12 + i)) (fun i => L (16 + i)) (fun i => vs (12 + i))) (fun _ => MkN.drew hK (fun _ _ => rfl)) ?_ ?_
  · intro L vs ac wc i o hF hLi ho hd K hK
    rcases i with _ | _ | _ | _ | _ | _ | _ | _ | _ | _ | _ | _ | _ | _ | _ | _ | _ | _ | _ | _ | i
    · have ho' := ho
      obtain rfl := Option.some.inj ho
      have f8 : ac.tmps.getD 8 undef = .pointer (some ⟨g4, 0, none⟩) := slott hF 0 hLi 8 (by kernel_rfl)
      refine step_do ho' (wanted_free rfl) ?_
      exact wp_load_own 35 (.tmp 8) rfl g4 f8 (numA b) _ 35 (hF.j.1.at g4 (numA b) 35 (.tail _ (.tail _ (.head _)))) Tryd.underlying35 rfl (numA_info _) (hK _ _ (.inr rfl) (hF.j.congr (fun i hi => if_off (by decide) hi) (fun i hi => if_off (by decide) hi) (fun i hi => if_off (by decide) hi)))
    · have ho' := ho
      obtain rfl := Option.some.inj ho
      have f7 : ac.tmps.getD 7 undef = .pointer (some ⟨g2, 0, none⟩) := slott hF 1 hLi 7 (by kernel_rfl)
      refine step_do ho' (wanted_free rfl) ?_
      exact wp_load_own 35 (.tmp 7) rfl g2 f7 (numA a) _ 35 (hF.j.1.at g2 (numA a) 35 (.tail _ (.tail _ (.tail _ (.head _))))) Tryd.underlying35 rfl (numA_info _) (hK _ _ (.inr rfl) (hF.j.congr (fun i hi => if_off (by decide) hi) (fun i hi => if_off (by decide) hi) (fun i hi => if_off (by decide) hi)))
    · have ho' := ho
      obtain rfl := Option.some.inj ho
      have f55 : ac.tmps.getD 55 undef = .agg (numA b) := (factt hF hd 0 rfl rfl (by kernel_rfl)).1.trans (factt hF hd 0 rfl rfl (by kernel_rfl)).2
      have f56 : ac.tmps.getD 56 undef = .agg (numA a) := (factt hF hd 1 rfl rfl (by kernel_rfl)).1.trans (factt hF hd 1 rfl rfl (by kernel_rfl)).2
      refine step_do ho' (wanted_free rfl) ?_
      unfold Oper.wp
      go_simp
      refine (fsub_at hb.out ha.out Hh.out _).mono ?_
      rintro e w' ⟨rfl, hB⟩
      exact hK _ _ (.inr rfl) ((hF.j.congr (fun i hi => if_off (by decide) hi) (fun i hi => if_off (by decide) hi) (fun i hi => if_off (by decide) hi)).below hB)
    · have ho' := ho
      obtain rfl := Option.some.inj ho
      have f10 : ac.tmps.getD 10 undef = .pointer (some ⟨b10, 0, none⟩) := slott hF 3 hLi 10 (by kernel_rfl)
      refine step_do ho' (wanted_free rfl) ?_
      exact wp_load_own 35 (.tmp 10) rfl b10 f10 (numA e) _ 35 (hF.j.1.at b10 (numA e) 35 (.head _)) Tryd.underlying35 rfl (numA_info _) (hK _ _ (.inr rfl) (hF.j.congr (fun i hi => if_off (by decide) hi) (fun i hi => if_off (by decide) hi) (fun i hi => if_off (by decide) hi)))
    · have ho' := ho
      obtain rfl := Option.some.inj ho
      have f9 : ac.tmps.getD 9 undef = .pointer (some ⟨g6, 0, none⟩) := slott hF 4 hLi 9 (by kernel_rfl)
      refine step_do ho' (wanted_free rfl) ?_
      exact wp_load_own 35 (.tmp 9) rfl g6 f9 (numA c) _ 35 (hF.j.1.at g6 (numA c) 35 (.tail _ (.head _))) Tryd.underlying35 rfl (numA_info _) (hK _ _ (.inr rfl) (hF.j.congr (fun i hi => if_off (by decide) hi) (fun i hi => if_off (by decide) hi) (fun i hi => if_off (by decide) hi)))
    · have ho' := ho
      obtain rfl := Option.some.inj ho
      have f58 : ac.tmps.getD 58 undef = .agg (numA e) := (factt hF hd 3 rfl rfl (by kernel_rfl)).1.trans (factt hF hd 3 rfl rfl (by kernel_rfl)).2
      have f59 : ac.tmps.getD 59 undef = .agg (numA c) := (factt hF hd 4 rfl rfl (by kernel_rfl)).1.trans (factt hF hd 4 rfl rfl (by kernel_rfl)).2
      refine step_do ho' (wanted_free rfl) ?_
      unfold Oper.wp
      go_simp
      refine (fsub_at he.out hc.out Hf.out _).mono ?_
      rintro e w' ⟨rfl, hB⟩
      exact hK _ _ (.inr rfl) ((hF.j.congr (fun i hi => if_off (by decide) hi) (fun i hi => if_off (by decide) hi) (fun i hi => if_off (by decide) hi)).below hB)
    · have ho' := ho
      obtain rfl := Option.some.inj ho
      have f10 : ac.tmps.getD 10 undef = .pointer (some ⟨b10, 0, none⟩) := slott hF 6 hLi 10 (by kernel_rfl)
      refine step_do ho' (wanted_free rfl) ?_
      exact wp_load_own 35 (.tmp 10) rfl b10 f10 (numA e) _ 35 (hF.j.1.at b10 (numA e) 35 (.head _)) Tryd.underlying35 rfl (numA_info _) (hK _ _ (.inr rfl) (hF.j.congr (fun i hi => if_off (by decide) hi) (fun i hi => if_off (by decide) hi) (fun i hi => if_off (by decide) hi)))
    · have ho' := ho
      obtain rfl := Option.some.inj ho
      have f9 : ac.tmps.getD 9 undef = .pointer (some ⟨g6, 0, none⟩) := slott hF 7 hLi 9 (by kernel_rfl)
      refine step_do ho' (wanted_free rfl) ?_
      exact wp_load_own 35 (.tmp 9) rfl g6 f9 (numA c) _ 35 (hF.j.1.at g6 (numA c) 35 (.tail _ (.head _))) Tryd.underlying35 rfl (numA_info _) (hK _ _ (.inr rfl) (hF.j.congr (fun i hi => if_off (by decide) hi) (fun i hi => if_off (by decide) hi) (fun i hi => if_off (by decide) hi)))
    · have ho' := ho
      obtain rfl := Option.some.inj ho
      have f61 : ac.tmps.getD 61 undef = .agg (numA e) := (factt hF hd 6 rfl rfl (by kernel_rfl)).1.trans (factt hF hd 6 rfl rfl (by kernel_rfl)).2
      have f62 : ac.tmps.getD 62 undef = .agg (numA c) := (factt hF hd 7 rfl rfl (by kernel_rfl)).1.trans (factt hF hd 7 rfl rfl (by kernel_rfl)).2
      refine step_do ho' (wanted_free rfl) ?_
      unfold Oper.wp
      go_simp
      refine (fadd_at he.out hc.out Hg.out _).mono ?_
      rintro e w' ⟨rfl, hB⟩
      exact hK _ _ (.inr rfl) ((hF.j.congr (fun i hi => if_off (by decide) hi) (fun i hi => if_off (by decide) hi) (fun i hi => if_off (by decide) hi)).below hB)
    · have ho' := ho
      obtain rfl := Option.some.inj ho
      have f8 : ac.tmps.getD 8 undef = .pointer (some ⟨g4, 0, none⟩) := slott hF 9 hLi 8 (by kernel_rfl)
      refine step_do ho' (wanted_free rfl) ?_
      exact wp_load_own 35 (.tmp 8) rfl g4 f8 (numA b) _ 35 (hF.j.1.at g4 (numA b) 35 (.tail _ (.tail _ (.head _)))) Tryd.underlying35 rfl (numA_info _) (hK _ _ (.inr rfl) (hF.j.congr (fun i hi => if_off (by decide) hi) (fun i hi => if_off (by decide) hi) (fun i hi => if_off (by decide) hi)))
    · have ho' := ho
      obtain rfl := Option.some.inj ho
      have f7 : ac.tmps.getD 7 undef = .pointer (some ⟨g2, 0, none⟩) := slott hF 10 hLi 7 (by kernel_rfl)
      refine step_do ho' (wanted_free rfl) ?_
      exact wp_load_own 35 (.tmp 7) rfl g2 f7 (numA a) _ 35 (hF.j.1.at g2 (numA a) 35 (.tail _ (.tail _ (.tail _ (.head _))))) Tryd.underlying35 rfl (numA_info _) (hK _ _ (.inr rfl) (hF.j.congr (fun i hi => if_off (by decide) hi) (fun i hi => if_off (by decide) hi) (fun i hi => if_off (by decide) hi)))
    · have ho' := ho
      obtain rfl := Option.some.inj ho
      have f64 : ac.tmps.getD 64 undef = .agg (numA b) := (factt hF hd 9 rfl rfl (by kernel_rfl)).1.trans (factt hF hd 9 rfl rfl (by kernel_rfl)).2
      have f65 : ac.tmps.getD 65 undef = .agg (numA a) := (factt hF hd 10 rfl rfl (by kernel_rfl)).1.trans (factt hF hd 10 rfl rfl (by kernel_rfl)).2
      refine step_do ho' (wanted_free rfl) ?_
      unfold Oper.wp
      go_simp
      refine (fadd_at hb.out ha.out Hi.out _).mono ?_
      rintro e w' ⟨rfl, hB⟩
      exact hK _ _ (.inr rfl) ((hF.j.congr (fun i hi => if_off (by decide) hi) (fun i hi => if_off (by decide) hi) (fun i hi => if_off (by decide) hi)).below hB)
    · have ho' := ho
      obtain rfl := Option.some.inj ho
      refine step_do ho' (wanted_free rfl) ?_
      have hs := notyett hF 12 hLi 16 rfl (by kernel_rfl)
      unfold Oper.wp
      go_simp
      rw [show (#[.int .u64 0, .int .u64 0, .int .u64 0, .int .u64 0] : Array Value) = numA 0 from rfl]
      exact hK _ _ (.inr ⟨_, rfl⟩) (hF.j.alloc 0 (fun i _ hne => if_oth (k := 0) rfl hne) (fun i hi => if_off (by decide) hi) (fun i _ hne => if_oth (k := 0) rfl hne) rfl hs)
    · have ho' := ho
      obtain rfl := Option.some.inj ho
      refine step_do ho' (wanted_free rfl) ?_
      have hs := notyett hF 13 hLi 17 rfl (by kernel_rfl)
      unfold Oper.wp
      go_simp
      rw [show (#[.int .u64 0, .int .u64 0, .int .u64 0, .int .u64 0] : Array Value) = numA 0 from rfl]
      exact hK _ _ (.inr ⟨_, rfl⟩) (hF.j.alloc 1 (fun i _ hne => if_oth (k := 1) rfl hne) (fun i hi => if_off (by decide) hi) (fun i _ hne => if_oth (k := 1) rfl hne) rfl hs)
    · have ho' := ho
      obtain rfl := Option.some.inj ho
      refine step_do ho' (wanted_free rfl) ?_
      have hs := notyett hF 14 hLi 18 rfl (by kernel_rfl)
      unfold Oper.wp
      go_simp
      rw [show (#[.int .u64 0, .int .u64 0, .int .u64 0, .int .u64 0] : Array Value) = numA 0 from rfl]
      exact hK _ _ (.inr ⟨_, rfl⟩) (hF.j.alloc 2 (fun i _ hne => if_oth (k := 2) rfl hne) (fun i hi => if_off (by decide) hi) (fun i _ hne => if_oth (k := 2) rfl hne) rfl hs)
    · have ho' := ho
      obtain rfl := Option.some.inj ho
      refine step_do ho' (wanted_free rfl) ?_
      have hs := notyett hF 15 hLi 19 rfl (by kernel_rfl)
      unfold Oper.wp
      go_simp
      rw [show (#[.int .u64 0, .int .u64 0, .int .u64 0, .int .u64 0] : Array Value) = numA 0 from rfl]
      exact hK _ _ (.inr ⟨_, rfl⟩) (hF.j.alloc 3 (fun i _ hne => if_oth (k := 3) rfl hne) (fun i hi => if_off (by decide) hi) (fun i _ hne => if_oth (k := 3) rfl hne) rfl hs)
    · have ho' := ho
      obtain rfl := Option.some.inj ho
      have f57 : ac.tmps.getD 57 undef = .agg (numA h) := (factt hF hd 2 rfl rfl (by kernel_rfl)).1.trans (factt hF hd 2 rfl rfl (by kernel_rfl)).2
      refine step_do ho' (wanted_free rfl) ?_
      obtain ⟨fg, gq, hg⟩ := factt hF hd 12 rfl rfl (by kernel_rfl)
      have hm := dep hd 12 (by kernel_rfl)
      have hj := hF.j
      rw [hg] at fg
      have hj2 := hj.at (k := 0) (by decide) hm hg hLi
      refine wp_store_own 35 (.tmp 11) (.tmp 57) rfl gq (numA h) fg f57 hj2.2.2 (numA_sizes _ _) (numA_info _) (numA_one _) rfl ?_
      exact hK undef _ (.inl rfl) (hj.storeA (k := 0) Af14_0.out (by decide) hm hg hLi (numA_sizes _ _) (fun i hi => if_off (by decide) hi) (fun i _ hne => if_oth (k := 0) rfl hne) (fun i hi => if_off (by decide) hi) rfl)
    · have ho' := ho
      obtain rfl := Option.some.inj ho
      have f60 : ac.tmps.getD 60 undef = .agg (numA f) := (factt hF hd 5 rfl rfl (by kernel_rfl)).1.trans (factt hF hd 5 rfl rfl (by kernel_rfl)).2
      refine step_do ho' (wanted_free rfl) ?_
      obtain ⟨fg, gq, hg⟩ := factt hF hd 13 rfl rfl (by kernel_rfl)
      have hm := dep hd 13 (by kernel_rfl)
      have hj := hF.j
      rw [hg] at fg
      have hj2 := hj.at (k := 1) (by decide) hm hg hLi
      refine wp_store_own 35 (.tmp 12) (.tmp 60) rfl gq (numA f) fg f60 hj2.2.2 (numA_sizes _ _) (numA_info _) (numA_one _) rfl ?_
      exact hK undef _ (.inl rfl) (hj.storeA (k := 1) Af14_1.out (by decide) hm hg hLi (numA_sizes _ _) (fun i hi => if_off (by decide) hi) (fun i _ hne => if_oth (k := 1) rfl hne) (fun i hi => if_off (by decide) hi) rfl)
    · have ho' := ho
      obtain rfl := Option.some.inj ho
      have f63 : ac.tmps.getD 63 undef = .agg (numA g) := (factt hF hd 8 rfl rfl (by kernel_rfl)).1.trans (factt hF hd 8 rfl rfl (by kernel_rfl)).2
      refine step_do ho' (wanted_free rfl) ?_
      obtain ⟨fg, gq, hg⟩ := factt hF hd 14 rfl rfl (by kernel_rfl)
      have hm := dep hd 14 (by kernel_rfl)
      have hj := hF.j
      rw [hg] at fg
      have hj2 := hj.at (k := 2) (by decide) hm hg hLi
      refine wp_store_own 35 (.tmp 13) (.tmp 63) rfl gq (numA g) fg f63 hj2.2.2 (numA_sizes _ _) (numA_info _) (numA_one _) rfl ?_
      exact hK undef _ (.inl rfl) (hj.storeA (k := 2) Af14_2.out (by decide) hm hg hLi (numA_sizes _ _) (fun i hi => if_off (by decide) hi) (fun i _ hne => if_oth (k := 2) rfl hne) (fun i hi => if_off (by decide) hi) rfl)
    · have ho' := ho
      obtain rfl := Option.some.inj ho
      have f66 : ac.tmps.getD 66 undef = .agg (numA i) := (factt hF hd 11 rfl rfl (by kernel_rfl)).1.trans (factt hF hd 11 rfl rfl (by kernel_rfl)).2
      refine step_do ho' (wanted_free rfl) ?_
      obtain ⟨fg, gq, hg⟩ := factt hF hd 15 rfl rfl (by kernel_rfl)
      have hm := dep hd 15 (by kernel_rfl)
      have hj := hF.j
      rw [hg] at fg
      have hj2 := hj.at (k := 3) (by decide) hm hg hLi
      refine wp_store_own 35 (.tmp 14) (.tmp 66) rfl gq (numA i) fg f66 hj2.2.2 (numA_sizes _ _) (numA_info _) (numA_one _) rfl ?_
      exact hK undef _ (.inl rfl) (hj.storeA (k := 3) Af14_3.out (by decide) hm hg hLi (numA_sizes _ _) (fun i hi => if_off (by decide) hi) (fun i _ hne => if_oth (k := 3) rfl hne) (fun i hi => if_off (by decide) hi) rfl)
    · cases ho
  intro L vs V15 hL hJ hf
  obtain ⟨g16, hgg16⟩ := hf 12 _ _ rfl rfl
  obtain ⟨le0, apg16, owng16⟩ := hJ.gotA (k := 0) Af14_0.out (by decide) (hL 12 (by decide)) hgg16 (hL 16 (by decide))
  have le_g16 := show Hid _ from le0
  clear le0
  obtain ⟨g17, hgg17⟩ := hf 13 _ _ rfl rfl
  obtain ⟨le0, apg17, owng17⟩ := hJ.gotA (k := 1) Af14_1.out (by decide) (hL 13 (by decide)) hgg17 (hL 17 (by decide))
  have le_g17 := show Hid _ from le0
  clear le0
  obtain ⟨g18, hgg18⟩ := hf 14 _ _ rfl rfl
  obtain ⟨le0, apg18, owng18⟩ := hJ.gotA (k := 2) Af14_2.out (by decide) (hL 14 (by decide)) hgg18 (hL 18 (by decide))
  have le_g18 := show Hid _ from le0
  clear le0
  obtain ⟨g19, hgg19⟩ := hf 15 _ _ rfl rfl
  obtain ⟨le0, apg19, owng19⟩ := hJ.gotA (k := 3) Af14_3.out (by decide) (hL 15 (by decide)) hgg19 (hL 19 (by decide))
  have le_g19 := show Hid _ from le0
  clear le0
  have ne_g16_g17 : Hid (g16 ≠ g17) := hJ.apart (i := 0) (j := 1) (by decide) (by decide) (by decide) (hL 12 (by decide)) (hL 13 (by decide)) hgg16 hgg17
  have ne_g16_g18 : Hid (g16 ≠ g18) := hJ.apart (i := 0) (j := 2) (by decide) (by decide) (by decide) (hL 12 (by decide)) (hL 14 (by decide)) hgg16 hgg18
  have ne_g17_g18 : Hid (g17 ≠ g18) := hJ.apart (i := 1) (j := 2) (by decide) (by decide) (by decide) (hL 13 (by decide)) (hL 14 (by decide)) hgg17 hgg18
  have ne_g16_g19 : Hid (g16 ≠ g19) := hJ.apart (i := 0) (j := 3) (by decide) (by decide) (by decide) (hL 12 (by decide)) (hL 15 (by decide)) hgg16 hgg19
  have ne_g17_g19 : Hid (g17 ≠ g19) := hJ.apart (i := 1) (j := 3) (by decide) (by decide) (by decide) (hL 13 (by decide)) (hL 15 (by decide)) hgg17 hgg19
  have ne_g18_g19 : Hid (g18 ≠ g19) := hJ.apart (i := 2) (j := 3) (by decide) (by decide) (by decide) (hL 14 (by decide)) (hL 15 (by decide)) hgg18 hgg19
  have ne_bR_g16 : Hid (bR ≠ g16) := apg16 (bR, PA ⟨0, 0, 0, 0⟩, 47) (.tail _ (.tail _ (.tail _ (.tail _ (.head _)))))
  have ne_bR_g17 : Hid (bR ≠ g17) := apg17 (bR, PA ⟨0, 0, 0, 0⟩, 47) (.tail _ (.tail _ (.tail _ (.tail _ (.head _)))))
  have ne_bR_g18 : Hid (bR ≠ g18) := apg18 (bR, PA ⟨0, 0, 0, 0⟩, 47) (.tail _ (.tail _ (.tail _ (.tail _ (.head _)))))
  have ne_bR_g19 : Hid (bR ≠ g19) := apg19 (bR, PA ⟨0, 0, 0, 0⟩, 47) (.tail _ (.tail _ (.tail _ (.tail _ (.head _)))))
  have hK : Kp [(g19, numA i, 35), (g18, numA g, 35), (g17, numA f, 35), (g16, numA h, 35), (b10, numA e, 35), (g6, numA c, 35), (g4, numA b, 35), (g2, numA a, 35), (bR, PA ⟨0, 0, 0, 0⟩, 47), (bK, numA k, 35), (bQ, PA ⟨X2, Y2, Z2, T2⟩, 47), (bP, PA ⟨X1, Y1, Z1, T1⟩, 47)] w V15 := ((((hJ.1.cons owng16).cons owng17).cons owng18).cons owng19)
  have e0 : vs 0 = _ := hf 0 _ _ rfl rfl
  have e1 : vs 1 = _ := hf 1 _ _ rfl rfl
  have e2 : vs 2 = _ := hf 2 _ _ rfl rfl
  have e3 : vs 3 = _ := hf 3 _ _ rfl rfl
  have e4 : vs 4 = _ := hf 4 _ _ rfl rfl
  have e5 : vs 5 = _ := hf 5 _ _ rfl rfl
  have e6 : vs 6 = _ := hf 6 _ _ rfl rfl
  have e7 : vs 7 = _ := hf 7 _ _ rfl rfl
  have e8 : vs 8 = _ := hf 8 _ _ rfl rfl
  have e9 : vs 9 = _ := hf 9 _ _ rfl rfl
  have e10 : vs 10 = _ := hf 10 _ _ rfl rfl
  have e11 : vs 11 = _ := hf 11 _ _ rfl rfl
  simp only [putAll, Nat.zero_add, Nat.reduceAdd, e0, e1, e2, e3, e4, e5, e6, e7, e8, e9, e10, e11, hgg16, hgg17, hgg18, hgg19, Act.put, List.setIfInBounds_toArray, List.set_cons_succ, List.set_cons_zero]
  clear hJ hf hL e0 e1 e2 e3 e4 e5 e6 e7 e8 e9 e10 e11 hgg16 hgg17 hgg18 hgg19 apg16 apg17 apg18 apg19 owng16 owng17 owng18 owng19
  go_upto_region 8 with fail
  have hK : Kp [(g19, numA i, 35), (g18, numA g, 35), (g17, numA f, 35), (g16, numA h, 35), (bR, PA ⟨0, 0, 0, 0⟩, 47)] w V15 := (((((hK.none.cons (hK.at bR (PA ⟨0, 0, 0, 0⟩) 47 (.tail _ (.tail _ (.tail _ (.tail _ (.tail _ (.tail _ (.tail _ (.tail _ (.head _))))))))))).cons (hK.at g16 (numA h) 35 (.tail _ (.tail _ (.tail _ (.head _)))))).cons (hK.at g17 (numA f) 35 (.tail _ (.tail _ (.head _))))).cons (hK.at g18 (numA g) 35 (.tail _ (.head _)))).cons (hK.at g19 (numA i) 35 (.head _)))
  refine wp_region_vals 80 (by kernel_rfl) (by kernel_rfl) (by rfl) (valPl8 h f g i X Y Z T) (fun L => Kp [(g19, numA i, 35), (g18, numA g, 35), (g17, numA f, 35), (g16, numA h, 35), (bR, if L 13 = true then PA ⟨X, Y, Z, T⟩ else PA ⟨0, 0, 0, 0⟩, 47)] w) hK.drew ?_ ?_
  · intro L ac wc i o hF hLi ho hd K hK
    rcases i with _ | _ | _ | _ | _ | _ | _ | _ | _ | _ | _ | _ | _ | _ | i
    · have ho' := ho
      obtain rfl := Option.some.inj ho
      have f11 : ac.tmps.getD 11 undef = .pointer (some ⟨g16, 0, none⟩) := slotv hF 0 hLi 11 (by kernel_rfl)
      refine step_do ho' (wanted_free rfl) ?_
      exact wp_load_own 35 (.tmp 11) rfl g16 f11 (numA h) _ 35 (hF.j.at g16 (numA h) 35 (.tail _ (.tail _ (.tail _ (.head _))))) Tryd.underlying35 rfl (numA_info _) (hK _ _ (.inr rfl) hF.j)
    · have ho' := ho
      obtain rfl := Option.some.inj ho
      have f12 : ac.tmps.getD 12 undef = .pointer (some ⟨g17, 0, none⟩) := slotv hF 1 hLi 12 (by kernel_rfl)
      refine step_do ho' (wanted_free rfl) ?_
      exact wp_load_own 35 (.tmp 12) rfl g17 f12 (numA f) _ 35 (hF.j.at g17 (numA f) 35 (.tail _ (.tail _ (.head _)))) Tryd.underlying35 rfl (numA_info _) (hK _ _ (.inr rfl) hF.j)
    · have ho' := ho
      obtain rfl := Option.some.inj ho
      have f67 : ac.tmps.getD 67 undef = .agg (numA h) := valv hF hd 0 rfl rfl (by kernel_rfl)
      have f68 : ac.tmps.getD 68 undef = .agg (numA f) := valv hF hd 1 rfl rfl (by kernel_rfl)
      refine step_do ho' (wanted_free rfl) ?_
      unfold Oper.wp
      go_simp
      refine (mul_at hh.out hf.out HX.out _).mono ?_
      rintro e w' ⟨rfl, hB⟩
      exact hK _ _ (.inr rfl) (hF.j.below hB)
    · have ho' := ho
      obtain rfl := Option.some.inj ho
      have f13 : ac.tmps.getD 13 undef = .pointer (some ⟨g18, 0, none⟩) := slotv hF 3 hLi 13 (by kernel_rfl)
      refine step_do ho' (wanted_free rfl) ?_
      exact wp_load_own 35 (.tmp 13) rfl g18 f13 (numA g) _ 35 (hF.j.at g18 (numA g) 35 (.tail _ (.head _))) Tryd.underlying35 rfl (numA_info _) (hK _ _ (.inr rfl) hF.j)
    · have ho' := ho
      obtain rfl := Option.some.inj ho
      have f14 : ac.tmps.getD 14 undef = .pointer (some ⟨g19, 0, none⟩) := slotv hF 4 hLi 14 (by kernel_rfl)
      refine step_do ho' (wanted_free rfl) ?_
      exact wp_load_own 35 (.tmp 14) rfl g19 f14 (numA i) _ 35 (hF.j.at g19 (numA i) 35 (.head _)) Tryd.underlying35 rfl (numA_info _) (hK _ _ (.inr rfl) hF.j)
    · have ho' := ho
      obtain rfl := Option.some.inj ho
      have f70 : ac.tmps.getD 70 undef = .agg (numA g) := valv hF hd 3 rfl rfl (by kernel_rfl)
      have f71 : ac.tmps.getD 71 undef = .agg (numA i) := valv hF hd 4 rfl rfl (by kernel_rfl)
      refine step_do ho' (wanted_free rfl) ?_
      unfold Oper.wp
      go_simp
      refine (mul_at hg.out hi.out HY.out _).mono ?_
      rintro e w' ⟨rfl, hB⟩
      exact hK _ _ (.inr rfl) (hF.j.below hB)
    · have ho' := ho
      obtain rfl := Option.some.inj ho
      have f12 : ac.tmps.getD 12 undef = .pointer (some ⟨g17, 0, none⟩) := slotv hF 6 hLi 12 (by kernel_rfl)
      refine step_do ho' (wanted_free rfl) ?_
      exact wp_load_own 35 (.tmp 12) rfl g17 f12 (numA f) _ 35 (hF.j.at g17 (numA f) 35 (.tail _ (.tail _ (.head _)))) Tryd.underlying35 rfl (numA_info _) (hK _ _ (.inr rfl) hF.j)
    · have ho' := ho
      obtain rfl := Option.some.inj ho
      have f13 : ac.tmps.getD 13 undef = .pointer (some ⟨g18, 0, none⟩) := slotv hF 7 hLi 13 (by kernel_rfl)
      refine step_do ho' (wanted_free rfl) ?_
      exact wp_load_own 35 (.tmp 13) rfl g18 f13 (numA g) _ 35 (hF.j.at g18 (numA g) 35 (.tail _ (.head _))) Tryd.underlying35 rfl (numA_info _) (hK _ _ (.inr rfl) hF.j)
    · have ho' := ho
      obtain rfl := Option.some.inj ho
      have f73 : ac.tmps.getD 73 undef = .agg (numA f) := valv hF hd 6 rfl rfl (by kernel_rfl)
      have f74 : ac.tmps.getD 74 undef = .agg (numA g) := valv hF hd 7 rfl rfl (by kernel_rfl)
      refine step_do ho' (wanted_free rfl) ?_
      unfold Oper.wp
      go_simp
      refine (mul_at hf.out hg.out HZ.out _).mono ?_
      rintro e w' ⟨rfl, hB⟩
      exact hK _ _ (.inr rfl) (hF.j.below hB)
    · have ho' := ho
      obtain rfl := Option.some.inj ho
      have f11 : ac.tmps.getD 11 undef = .pointer (some ⟨g16, 0, none⟩) := slotv hF 9 hLi 11 (by kernel_rfl)
      refine step_do ho' (wanted_free rfl) ?_
      exact wp_load_own 35 (.tmp 11) rfl g16 f11 (numA h) _ 35 (hF.j.at g16 (numA h) 35 (.tail _ (.tail _ (.tail _ (.head _))))) Tryd.underlying35 rfl (numA_info _) (hK _ _ (.inr rfl) hF.j)
    · have ho' := ho
      obtain rfl := Option.some.inj ho
      have f14 : ac.tmps.getD 14 undef = .pointer (some ⟨g19, 0, none⟩) := slotv hF 10 hLi 14 (by kernel_rfl)
      refine step_do ho' (wanted_free rfl) ?_
      exact wp_load_own 35 (.tmp 14) rfl g19 f14 (numA i) _ 35 (hF.j.at g19 (numA i) 35 (.head _)) Tryd.underlying35 rfl (numA_info _) (hK _ _ (.inr rfl) hF.j)
    · have ho' := ho
      obtain rfl := Option.some.inj ho
      have f76 : ac.tmps.getD 76 undef = .agg (numA h) := valv hF hd 9 rfl rfl (by kernel_rfl)
      have f77 : ac.tmps.getD 77 undef = .agg (numA i) := valv hF hd 10 rfl rfl (by kernel_rfl)
      refine step_do ho' (wanted_free rfl) ?_
      unfold Oper.wp
      go_simp
      refine (mul_at hh.out hi.out HT.out _).mono ?_
      rintro e w' ⟨rfl, hB⟩
      exact hK _ _ (.inr rfl) (hF.j.below hB)
    · have ho' := ho
      obtain rfl := Option.some.inj ho
      have f69 : ac.tmps.getD 69 undef = .agg (numA X) := valv hF hd 2 rfl rfl (by kernel_rfl)
      have f72 : ac.tmps.getD 72 undef = .agg (numA Y) := valv hF hd 5 rfl rfl (by kernel_rfl)
      have f75 : ac.tmps.getD 75 undef = .agg (numA Z) := valv hF hd 8 rfl rfl (by kernel_rfl)
      have f78 : ac.tmps.getD 78 undef = .agg (numA T) := valv hF hd 11 rfl rfl (by kernel_rfl)
      refine step_do ho' (wanted_free rfl) ?_
      exact wp_build_pt 69 72 75 78 (X) (Y) (Z) (T) rfl f69 f72 f75 f78 (hK _ _ (.inr rfl) hF.j)
    · have ho' := ho
      obtain rfl := Option.some.inj ho
      have f6 : ac.tmps.getD 6 undef = .pointer (some ⟨bR, 0, none⟩) := slotv hF 13 hLi 6 (by kernel_rfl)
      have f79 : ac.tmps.getD 79 undef = .agg (PA ⟨X, Y, Z, T⟩) := valv hF hd 12 rfl rfl (by kernel_rfl)
      refine step_do ho' (wanted_free rfl) ?_
      have hj := hF.j
      rw [hLi] at hj
      have hj : Kp [(g19, numA i, 35), (g18, numA g, 35), (g17, numA f, 35), (g16, numA h, 35), (bR, PA ⟨0, 0, 0, 0⟩, 47)] w wc := hj
      have hj : Kp [(bR, PA ⟨0, 0, 0, 0⟩, 47), (g19, numA i, 35), (g18, numA g, 35), (g17, numA f, 35), (g16, numA h, 35)] w wc := (((((hj.none.cons (hj.at g16 (numA h) 35 (.tail _ (.tail _ (.tail _ (.head _)))))).cons (hj.at g17 (numA f) 35 (.tail _ (.tail _ (.head _))))).cons (hj.at g18 (numA g) 35 (.tail _ (.head _)))).cons (hj.at g19 (numA i) 35 (.head _))).cons (hj.at bR (PA ⟨0, 0, 0, 0⟩) 47 (.tail _ (.tail _ (.tail _ (.tail _ (.head _)))))))
      refine wp_store_own 47 (.tmp 6) (.tmp 79) rfl bR (PA ⟨X, Y, Z, T⟩) f6 f79 (hj.at bR (PA ⟨0, 0, 0, 0⟩) 47 (.head _)) (PA_sizes _ _) (PA_info _) (PA_one _) rfl ?_
      have hj := Kp.set (A' := PA ⟨X, Y, Z, T⟩) hj (by simp only [List.forall_mem_cons, List.not_mem_nil, false_implies, implies_true, and_true]; exact ⟨(Ne.symm ne_bR_g19.out), (Ne.symm ne_bR_g18.out), (Ne.symm ne_bR_g17.out), (Ne.symm ne_bR_g16.out)⟩) le_bR.out (PA_sizes _ _)
      exact hK undef _ (.inl rfl) (((((hj.none.cons (hj.at bR (PA ⟨X, Y, Z, T⟩) 47 (.head _))).cons (hj.at g16 (numA h) 35 (.tail _ (.tail _ (.tail _ (.tail _ (.head _))))))).cons (hj.at g17 (numA f) 35 (.tail _ (.tail _ (.tail _ (.head _)))))).cons (hj.at g18 (numA g) 35 (.tail _ (.tail _ (.head _))))).cons (hj.at g19 (numA i) 35 (.tail _ (.head _))))
    · cases ho
  intro L V20 hL hKq
  rw [hL 13 (by decide)] at hKq
  have hK : Kp [(g19, numA i, 35), (g18, numA g, 35), (g17, numA f, 35), (g16, numA h, 35), (bR, PA ⟨X, Y, Z, T⟩, 47)] w V20 := hKq
  clear hKq hL
  simp only [putAll, valPl8, Act.put, List.setIfInBounds_toArray, List.set_cons_succ, List.set_cons_zero]
  go_wp2_with fail
  exact bodyPost_ret (results_own Tryd.results56 _ _ bR (PA ⟨X, Y, Z, T⟩) _ (by rfl) (hK.at bR (PA ⟨X, Y, Z, T⟩) 47 (.tail _ (.tail _ (.tail _ (.tail _ (.head _)))))) Tryd.underlying47 rfl (PA_info _)) rfl ⟨rfl, hK.2⟩
end Go.Proofs.YtfkcphbbabaefaaDoor
