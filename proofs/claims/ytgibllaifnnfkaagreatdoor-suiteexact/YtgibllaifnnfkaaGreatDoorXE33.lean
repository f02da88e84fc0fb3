/- Of the texts V1B, V2: what the card of this claim reaches. -/
import Derived.Test.YtgibllaifnnfkaaGreatDoorXE32
import Derived.Test.YtgibllaifnnfkaaGreatDoorXE4
namespace Go.Proofs.YtgibllaifnnfkaaGreatDoor
open Go Go.RowKit
set_option maxRecDepth 100000 in
set_option maxHeartbeats 2000000 in
theorem plus_nat {X1 Y1 Z1 T1 X2 Y2 Z2 T2 k : Nat} (hX1 : Hid (X1 < R256)) (hY1 : Hid (Y1 < R256)) (hZ1 : Hid (Z1 < R256)) (hT1 : Hid (T1 < R256)) (hX2 : Hid (X2 < R256)) (hY2 : Hid (Y2 < R256)) (hZ2 : Hid (Z2 < R256)) (hT2 : Hid (T2 < R256)) (hk : Hid (k < R256)) (hkd : k = dd) (w : World) :
    Calls Tryz.prog 76 #[.agg (PA ⟨X1, Y1, Z1, T1⟩), .agg (PA ⟨X2, Y2, Z2, T2⟩), .agg (numA k)] w fun x w' => x = .returned (.agg (PA (plus4 ⟨X1, Y1, Z1, T1⟩ ⟨X2, Y2, Z2, T2⟩))) ∧ Below w.heap.size w w' := by
  have hz := (zero_of_info zeroLit).1
  have hzP := (zero_of_info zeroPA).1
  obtain ⟨s1, Hs1⟩ : ∃ x, Hid (subp Y1 X1 = x) := ⟨_, rfl⟩
  have hs1 : Hid (s1 < R256) := by show _ < _; rw [← Hs1.out]; exact subp_lt _ _
  obtain ⟨s2, Hs2⟩ : ∃ x, Hid (subp Y2 X2 = x) := ⟨_, rfl⟩
  have hs2 : Hid (s2 < R256) := by show _ < _; rw [← Hs2.out]; exact subp_lt _ _
  obtain ⟨a, Ha⟩ : ∃ x, Hid (s1 * s2 % pp = x) := ⟨_, rfl⟩
  have ha : Hid (a < R256) := by show _ < _; rw [← Ha.out]; exact lt_of_mod
  obtain ⟨t1, Ht1⟩ : ∃ x, Hid ((Y1 + X1) % pp = x) := ⟨_, rfl⟩
  have ht1 : Hid (t1 < R256) := by show _ < _; rw [← Ht1.out]; exact lt_of_mod
  obtain ⟨t2, Ht2⟩ : ∃ x, Hid ((Y2 + X2) % pp = x) := ⟨_, rfl⟩
  have ht2 : Hid (t2 < R256) := by show _ < _; rw [← Ht2.out]; exact lt_of_mod
  obtain ⟨b, Hb⟩ : ∃ x, Hid (t1 * t2 % pp = x) := ⟨_, rfl⟩
  have hb : Hid (b < R256) := by show _ < _; rw [← Hb.out]; exact lt_of_mod
  obtain ⟨u, Hu⟩ : ∃ x, Hid (T1 * k % pp = x) := ⟨_, rfl⟩
  have hu : Hid (u < R256) := by show _ < _; rw [← Hu.out]; exact lt_of_mod
  obtain ⟨c0, Hc0⟩ : ∃ x, Hid (u * T2 % pp = x) := ⟨_, rfl⟩
  have hc0 : Hid (c0 < R256) := by show _ < _; rw [← Hc0.out]; exact lt_of_mod
  obtain ⟨c, Hc⟩ : ∃ x, Hid ((c0 + c0) % pp = x) := ⟨_, rfl⟩
  have hc : Hid (c < R256) := by show _ < _; rw [← Hc.out]; exact lt_of_mod
  obtain ⟨e0, He0⟩ : ∃ x, Hid (Z1 * Z2 % pp = x) := ⟨_, rfl⟩
  have he0 : Hid (e0 < R256) := by show _ < _; rw [← He0.out]; exact lt_of_mod
  obtain ⟨e, He⟩ : ∃ x, Hid ((e0 + e0) % pp = x) := ⟨_, rfl⟩
  have he : Hid (e < R256) := by show _ < _; rw [← He.out]; exact lt_of_mod
  obtain ⟨h, Hh⟩ : ∃ x, Hid (subp b a = x) := ⟨_, rfl⟩
  have hh : Hid (h < R256) := by show _ < _; rw [← Hh.out]; exact subp_lt _ _
  obtain ⟨f, Hf⟩ : ∃ x, Hid (subp e c = x) := ⟨_, rfl⟩
  have hf : Hid (f < R256) := by show _ < _; rw [← Hf.out]; exact subp_lt _ _
  obtain ⟨g, Hg⟩ : ∃ x, Hid ((e + c) % pp = x) := ⟨_, rfl⟩
  have hg : Hid (g < R256) := by show _ < _; rw [← Hg.out]; exact lt_of_mod
  obtain ⟨i, Hi⟩ : ∃ x, Hid ((b + a) % pp = x) := ⟨_, rfl⟩
  have hi : Hid (i < R256) := by show _ < _; rw [← Hi.out]; exact lt_of_mod
  obtain ⟨X, HX⟩ : ∃ x, Hid (h * f % pp = x) := ⟨_, rfl⟩
  have hX : Hid (X < R256) := by show _ < _; rw [← HX.out]; exact lt_of_mod
  obtain ⟨Y, HY⟩ : ∃ x, Hid (g * i % pp = x) := ⟨_, rfl⟩
  have hY : Hid (Y < R256) := by show _ < _; rw [← HY.out]; exact lt_of_mod
  obtain ⟨Z, HZ⟩ : ∃ x, Hid (f * g % pp = x) := ⟨_, rfl⟩
  have hZ : Hid (Z < R256) := by show _ < _; rw [← HZ.out]; exact lt_of_mod
  obtain ⟨T, HT⟩ : ∃ x, Hid (h * i % pp = x) := ⟨_, rfl⟩
  have hT : Hid (T < R256) := by show _ < _; rw [← HT.out]; exact lt_of_mod
  have He4 : Hid (plus4 ⟨X1, Y1, Z1, T1⟩ ⟨X2, Y2, Z2, T2⟩ = ⟨X, Y, Z, T⟩) := by
    show _ = _
    rw [← HX.out, ← HY.out, ← HZ.out, ← HT.out, ← Hh.out, ← Hf.out, ← Hg.out, ← Hi.out, ← He.out, ← He0.out, ← Hc.out, ← Hc0.out, ← Hu.out, ← Hb.out, ← Ht1.out, ← Ht2.out, ← Ha.out, ← Hs1.out, ← Hs2.out, hkd]
    rfl
  rw [He4.out]
  clear hkd
  go_enter Tryz.func76, Tryz.ntmps76
  go_upto_region 1 with fail
  have hK := ((((Kp.nil w).alloc (PA ⟨X1, Y1, Z1, T1⟩) 56).alloc (PA ⟨X2, Y2, Z2, T2⟩) 56).alloc (numA k) 54).alloc (PA ⟨0, 0, 0, 0⟩) 56
  rw [World.size_alloc, World.size_alloc, World.size_alloc] at hK
  generalize (((w.alloc (.cells (PA ⟨X1, Y1, Z1, T1⟩) 56)).alloc (.cells (PA ⟨X2, Y2, Z2, T2⟩) 56)).alloc (.cells (numA k) 54)).alloc (.cells (PA ⟨0, 0, 0, 0⟩) 56) = W at *
  obtain ⟨bP, HbP⟩ : ∃ b, Hid (w.heap.size = b) := ⟨_, rfl⟩
  obtain ⟨bQ, HbQ⟩ : ∃ b, Hid (bP + 1 = b) := ⟨_, rfl⟩
  obtain ⟨bK, HbK⟩ : ∃ b, Hid (bQ + 1 = b) := ⟨_, rfl⟩
  obtain ⟨bR, HbR⟩ : ∃ b, Hid (bK + 1 = b) := ⟨_, rfl⟩
  have le_bP : Hid (w.heap.size ≤ bP) := by show _ ≤ _; have := HbP.out; omega
  have le_bQ : Hid (w.heap.size ≤ bQ) := by show _ ≤ _; have := HbP.out; have := HbQ.out; omega
  have le_bK : Hid (w.heap.size ≤ bK) := by show _ ≤ _; have := HbP.out; have := HbQ.out; have := HbK.out; omega
  have le_bR : Hid (w.heap.size ≤ bR) := by show _ ≤ _; have := HbP.out; have := HbQ.out; have := HbK.out; have := HbR.out; omega
  have ne_bP_bQ : Hid (bP ≠ bQ) := by show _ ≠ _; have := HbQ.out; omega
  have ne_bP_bK : Hid (bP ≠ bK) := by show _ ≠ _; have := HbQ.out; have := HbK.out; omega
  have ne_bQ_bK : Hid (bQ ≠ bK) := by show _ ≠ _; have := HbK.out; omega
  have ne_bP_bR : Hid (bP ≠ bR) := by show _ ≠ _; have := HbQ.out; have := HbK.out; have := HbR.out; omega
  have ne_bQ_bR : Hid (bQ ≠ bR) := by show _ ≠ _; have := HbK.out; have := HbR.out; omega
  have ne_bK_bR : Hid (bK ≠ bR) := by show _ ≠ _; have := HbR.out; omega
  rw [HbP.out, HbQ.out, HbK.out, HbR.out] at hK ⊢
  refine wp_region_lv 80 (fun _ => [(bR, PA ⟨0, 0, 0, 0⟩, 56), (bK, numA k, 54), (bQ, PA ⟨X2, Y2, Z2, T2⟩, 56), (bP, PA ⟨X1, Y1, Z1, T1⟩, 56)]) [.v (.pointer (some ⟨bP, 4, none⟩)), .v (.agg (numA Y1)), .v (.pointer (some ⟨bP, 0, none⟩)), .v (.agg (numA X1)), .v (.agg (numA s1)), .v (.pointer (some ⟨bQ, 4, none⟩)), .v (.agg (numA Y2)), .v (.pointer (some ⟨bQ, 0, none⟩)), .v (.agg (numA X2)), .v (.agg (numA s2)), .v (.agg (numA a)), .mk (numA 0) (numA a) 54 12, .o] hK (by kernel_rfl) (by kernel_rfl) (by kernel_rfl) (by rfl) ?_ ?_
  · exact .c (.p1 3 (.pointer (some ⟨bP, 0, none⟩))) <| .c (.x [(15, .pointer (some ⟨bP, 4, none⟩))] fun _ _ _ _ _ hfx hkx hx => wp_load_part 1 (by decide) (.tmp 15) rfl bP (hfx _ (.head _)) (hkx.at bP (PA ⟨X1, Y1, Z1, T1⟩) 56 (.tail _ (.tail _ (.tail _ (.head _))))) (hx _ _ rfl (Below.refl _ _))) <| .c (.p1 3 (.pointer (some ⟨bP, 0, none⟩))) <| .c (.x [(17, .pointer (some ⟨bP, 0, none⟩))] fun _ _ _ _ _ hfx hkx hx => wp_load_part 0 (by decide) (.tmp 17) rfl bP (hfx _ (.head _)) (hkx.at bP (PA ⟨X1, Y1, Z1, T1⟩) 56 (.tail _ (.tail _ (.tail _ (.head _))))) (hx _ _ rfl (Below.refl _ _))) <| .c (.ca fun _ _ _ => fsub_at hY1.out hX1.out Hs1.out _) <| .c (.p1 4 (.pointer (some ⟨bQ, 0, none⟩))) <| .c (.x [(20, .pointer (some ⟨bQ, 4, none⟩))] fun _ _ _ _ _ hfx hkx hx => wp_load_part 1 (by decide) (.tmp 20) rfl bQ (hfx _ (.head _)) (hkx.at bQ (PA ⟨X2, Y2, Z2, T2⟩) 56 (.tail _ (.tail _ (.head _)))) (hx _ _ rfl (Below.refl _ _))) <| .c (.p1 4 (.pointer (some ⟨bQ, 0, none⟩))) <| .c (.x [(22, .pointer (some ⟨bQ, 0, none⟩))] fun _ _ _ _ _ hfx hkx hx => wp_load_part 0 (by decide) (.tmp 22) rfl bQ (hfx _ (.head _)) (hkx.at bQ (PA ⟨X2, Y2, Z2, T2⟩) 56 (.tail _ (.tail _ (.head _)))) (hx _ _ rfl (Below.refl _ _))) <| .c (.ca fun _ _ _ => fsub_at hY2.out hX2.out Hs2.out _) <| .c (.ca fun _ _ _ => mul_at hs1.out hs2.out Ha.out _) <| .c (.al hz) <| .c (.st 11 (numA_info _) (numA_one _)) .nil
  intro vs V1 hJ hf
  obtain ⟨g2, hgg2⟩ := hf 11 _ _ rfl rfl
  obtain ⟨le0, apg2, owng2⟩ := hJ.got 11 hgg2
  have le_g2 := show Hid _ from le0
  clear le0
  have ne_bR_g2 : Hid (bR ≠ g2) := apg2 (bR, PA ⟨0, 0, 0, 0⟩, 56) (.head _)
  have hK : Kp [(g2, numA a, 54), (bR, PA ⟨0, 0, 0, 0⟩, 56), (bK, numA k, 54), (bQ, PA ⟨X2, Y2, Z2, T2⟩, 56), (bP, PA ⟨X1, Y1, Z1, T1⟩, 56)] w V1 := (hJ.1.cons owng2)
  simp only [putL, Lv.val, Nat.zero_add, Nat.reduceAdd, hgg2, Act.put, List.setIfInBounds_toArray, List.set_cons_succ, List.set_cons_zero]
  clear hJ hf hgg2 apg2 owng2
  go_upto_region 2 with fail
  refine wp_region_lv 80 (fun _ => [(g2, numA a, 54), (bR, PA ⟨0, 0, 0, 0⟩, 56), (bK, numA k, 54), (bQ, PA ⟨X2, Y2, Z2, T2⟩, 56), (bP, PA ⟨X1, Y1, Z1, T1⟩, 56)]) [.v (.pointer (some ⟨bP, 4, none⟩)), .v (.agg (numA Y1)), .v (.pointer (some ⟨bP, 0, none⟩)), .v (.agg (numA X1)), .v (.agg (numA t1)), .v (.pointer (some ⟨bQ, 4, none⟩)), .v (.agg (numA Y2)), .v (.pointer (some ⟨bQ, 0, none⟩)), .v (.agg (numA X2)), .v (.agg (numA t2)), .v (.agg (numA b)), .mk (numA 0) (numA b) 54 12, .o] hK (by kernel_rfl) (by kernel_rfl) (by kernel_rfl) (by rfl) ?_ ?_
  · exact .c (.p1 3 (.pointer (some ⟨bP, 0, none⟩))) <| .c (.x [(26, .pointer (some ⟨bP, 4, none⟩))] fun _ _ _ _ _ hfx hkx hx => wp_load_part 1 (by decide) (.tmp 26) rfl bP (hfx _ (.head _)) (hkx.at bP (PA ⟨X1, Y1, Z1, T1⟩) 56 (.tail _ (.tail _ (.tail _ (.tail _ (.head _)))))) (hx _ _ rfl (Below.refl _ _))) <| .c (.p1 3 (.pointer (some ⟨bP, 0, none⟩))) <| .c (.x [(28, .pointer (some ⟨bP, 0, none⟩))] fun _ _ _ _ _ hfx hkx hx => wp_load_part 0 (by decide) (.tmp 28) rfl bP (hfx _ (.head _)) (hkx.at bP (PA ⟨X1, Y1, Z1, T1⟩) 56 (.tail _ (.tail _ (.tail _ (.tail _ (.head _)))))) (hx _ _ rfl (Below.refl _ _))) <| .c (.ca fun _ _ _ => fadd_at hY1.out hX1.out Ht1.out _) <| .c (.p1 4 (.pointer (some ⟨bQ, 0, none⟩))) <| .c (.x [(31, .pointer (some ⟨bQ, 4, none⟩))] fun _ _ _ _ _ hfx hkx hx => wp_load_part 1 (by decide) (.tmp 31) rfl bQ (hfx _ (.head _)) (hkx.at bQ (PA ⟨X2, Y2, Z2, T2⟩) 56 (.tail _ (.tail _ (.tail _ (.head _))))) (hx _ _ rfl (Below.refl _ _))) <| .c (.p1 4 (.pointer (some ⟨bQ, 0, none⟩))) <| .c (.x [(33, .pointer (some ⟨bQ, 0, none⟩))] fun _ _ _ _ _ hfx hkx hx => wp_load_part 0 (by decide) (.tmp 33) rfl bQ (hfx _ (.head _)) (hkx.at bQ (PA ⟨X2, Y2, Z2, T2⟩) 56 (.tail _ (.tail _ (.tail _ (.head _))))) (hx _ _ rfl (Below.refl _ _))) <| .c (.ca fun _ _ _ => fadd_at hY2.out hX2.out Ht2.out _) <| .c (.ca fun _ _ _ => mul_at ht1.out ht2.out Hb.out _) <| .c (.al hz) <| .c (.st 11 (numA_info _) (numA_one _)) .nil
  intro vs V3 hJ hf
  obtain ⟨g4, hgg4⟩ := hf 11 _ _ rfl rfl
  obtain ⟨le0, apg4, owng4⟩ := hJ.got 11 hgg4
  have le_g4 := show Hid _ from le0
  clear le0
  have ne_bR_g4 : Hid (bR ≠ g4) := apg4 (bR, PA ⟨0, 0, 0, 0⟩, 56) (.tail _ (.head _))
  have hK : Kp [(g4, numA b, 54), (g2, numA a, 54), (bR, PA ⟨0, 0, 0, 0⟩, 56), (bK, numA k, 54), (bQ, PA ⟨X2, Y2, Z2, T2⟩, 56), (bP, PA ⟨X1, Y1, Z1, T1⟩, 56)] w V3 := (hJ.1.cons owng4)
  simp only [putL, Lv.val, Nat.zero_add, Nat.reduceAdd, hgg4, Act.put, List.setIfInBounds_toArray, List.set_cons_succ, List.set_cons_zero]
  clear hJ hf hgg4 apg4 owng4
  go_upto_region 3 with fail
  refine wp_region_lv 80 (fun _ => [(g4, numA b, 54), (g2, numA a, 54), (bR, PA ⟨0, 0, 0, 0⟩, 56), (bK, numA k, 54), (bQ, PA ⟨X2, Y2, Z2, T2⟩, 56), (bP, PA ⟨X1, Y1, Z1, T1⟩, 56)]) [.v (.pointer (some ⟨bP, 12, none⟩)), .v (.agg (numA T1)), .v (.agg (numA k)), .v (.agg (numA u)), .v (.pointer (some ⟨bQ, 12, none⟩)), .v (.agg (numA T2)), .v (.agg (numA c0)), .mk (numA 0) (numA c0) 54 8, .o] hK (by kernel_rfl) (by kernel_rfl) (by kernel_rfl) (by rfl) ?_ ?_
  · exact .c (.p1 3 (.pointer (some ⟨bP, 0, none⟩))) <| .c (.x [(37, .pointer (some ⟨bP, 12, none⟩))] fun _ _ _ _ _ hfx hkx hx => wp_load_part 3 (by decide) (.tmp 37) rfl bP (hfx _ (.head _)) (hkx.at bP (PA ⟨X1, Y1, Z1, T1⟩) 56 (.tail _ (.tail _ (.tail _ (.tail _ (.tail _ (.head _))))))) (hx _ _ rfl (Below.refl _ _))) <| .c (.ld bK (fun _ => .tail _ (.tail _ (.tail _ (.head _)))) Tryz.underlying54 rfl (numA_info _)) <| .c (.ca fun _ _ _ => mul_at hT1.out hk.out Hu.out _) <| .c (.p1 4 (.pointer (some ⟨bQ, 0, none⟩))) <| .c (.x [(41, .pointer (some ⟨bQ, 12, none⟩))] fun _ _ _ _ _ hfx hkx hx => wp_load_part 3 (by decide) (.tmp 41) rfl bQ (hfx _ (.head _)) (hkx.at bQ (PA ⟨X2, Y2, Z2, T2⟩) 56 (.tail _ (.tail _ (.tail _ (.tail _ (.head _)))))) (hx _ _ rfl (Below.refl _ _))) <| .c (.ca fun _ _ _ => mul_at hu.out hT2.out Hc0.out _) <| .c (.al hz) <| .c (.st 7 (numA_info _) (numA_one _)) .nil
  intro vs V5 hJ hf
  obtain ⟨g6, hgg6⟩ := hf 7 _ _ rfl rfl
  obtain ⟨le0, apg6, owng6⟩ := hJ.got 7 hgg6
  have le_g6 := show Hid _ from le0
  clear le0
  have ne_g4_g6 : Hid (g4 ≠ g6) := apg6 (g4, numA b, 54) (.head _)
  have ne_g2_g6 : Hid (g2 ≠ g6) := apg6 (g2, numA a, 54) (.tail _ (.head _))
  have ne_bR_g6 : Hid (bR ≠ g6) := apg6 (bR, PA ⟨0, 0, 0, 0⟩, 56) (.tail _ (.tail _ (.head _)))
  have ne_bK_g6 : Hid (bK ≠ g6) := apg6 (bK, numA k, 54) (.tail _ (.tail _ (.tail _ (.head _))))
  have ne_bQ_g6 : Hid (bQ ≠ g6) := apg6 (bQ, PA ⟨X2, Y2, Z2, T2⟩, 56) (.tail _ (.tail _ (.tail _ (.tail _ (.head _)))))
  have ne_bP_g6 : Hid (bP ≠ g6) := apg6 (bP, PA ⟨X1, Y1, Z1, T1⟩, 56) (.tail _ (.tail _ (.tail _ (.tail _ (.tail _ (.head _))))))
  have hK : Kp [(g6, numA c0, 54), (g4, numA b, 54), (g2, numA a, 54), (bR, PA ⟨0, 0, 0, 0⟩, 56), (bK, numA k, 54), (bQ, PA ⟨X2, Y2, Z2, T2⟩, 56), (bP, PA ⟨X1, Y1, Z1, T1⟩, 56)] w V5 := (hJ.1.cons owng6)
  simp only [putL, Lv.val, Nat.zero_add, Nat.reduceAdd, hgg6, Act.put, List.setIfInBounds_toArray, List.set_cons_succ, List.set_cons_zero]
  clear hJ hf hgg6 apg6 owng6
  go_upto_region 4 with fail
  go_wp2_with (first
    | refine wpList_load_own (by rfl) 54 (.tmp 9) (by rfl) g6 (by rfl) (numA c0) _ (hK.at g6 (numA c0) 54 (.head _)) Tryz.underlying54 (by rfl) (numA_info _) ?_
    | refine wpList_load_own (by rfl) 54 (.tmp 9) (by rfl) g6 (by rfl) (numA c0) _ (hK.at g6 (numA c0) 54 (.head _)) Tryz.underlying54 (by rfl) (numA_info _) ?_)
  refine (fadd_at hc0.out hc0.out Hc.out _).mono ?_
  rintro e V7 ⟨rfl, bw⟩
  have hK := hK.below bw
  clear bw
  go_upto_region 5 with (refine wpList_store_own (by rfl) 54 (.tmp 9) (.tmp 46) (by rfl) g6 0 (numA c) (by rfl) (by rfl) (hK.at g6 (numA c0) 54 (.head _)) (Nat.le_refl _) (numA_info _) (numA_one _) (by rfl) ?_)
  have hK : Kp [(g6, numA c0, 54), (g4, numA b, 54), (g2, numA a, 54), (bR, PA ⟨0, 0, 0, 0⟩, 56), (bK, numA k, 54), (bQ, PA ⟨X2, Y2, Z2, T2⟩, 56), (bP, PA ⟨X1, Y1, Z1, T1⟩, 56)] w V7 := (((((((hK.none.cons (hK.at bP (PA ⟨X1, Y1, Z1, T1⟩) 56 (.tail _ (.tail _ (.tail _ (.tail _ (.tail _ (.tail _ (.head _))))))))).cons (hK.at bQ (PA ⟨X2, Y2, Z2, T2⟩) 56 (.tail _ (.tail _ (.tail _ (.tail _ (.tail _ (.head _)))))))).cons (hK.at bK (numA k) 54 (.tail _ (.tail _ (.tail _ (.tail _ (.head _))))))).cons (hK.at bR (PA ⟨0, 0, 0, 0⟩) 56 (.tail _ (.tail _ (.tail _ (.head _)))))).cons (hK.at g2 (numA a) 54 (.tail _ (.tail _ (.head _))))).cons (hK.at g4 (numA b) 54 (.tail _ (.head _)))).cons (hK.at g6 (numA c0) 54 (.head _)))
  have hK := Kp.set (A' := numA c) hK (by simp only [List.forall_mem_cons, List.not_mem_nil, false_implies, implies_true, and_true]; exact ⟨ne_g4_g6.out, ne_g2_g6.out, ne_bR_g6.out, ne_bK_g6.out, ne_bQ_g6.out, ne_bP_g6.out⟩) le_g6.out (numA_sizes _ _)
  generalize V7.setCells g6 0 (numA c).toList = V8 at *
  go_wp2_with (first
    | refine wpList_load_part (by rfl) 2 (by decide) (.tmp 47) (by rfl) bP (by rfl) (hK.at bP (PA ⟨X1, Y1, Z1, T1⟩) 56 (.tail _ (.tail _ (.tail _ (.tail _ (.tail _ (.tail _ (.head _)))))))) ?_
    | refine wpList_load_part (by rfl) 2 (by decide) (.tmp 49) (by rfl) bQ (by rfl) (hK.at bQ (PA ⟨X2, Y2, Z2, T2⟩) 56 (.tail _ (.tail _ (.tail _ (.tail _ (.tail _ (.head _))))))) ?_)
  refine (mul_at hZ1.out hZ2.out He0.out _).mono ?_
  rintro e V9 ⟨rfl, bw⟩
  have hK := hK.below bw
  clear bw
  go_upto_region 6 with (refine wpList_store_new (by rfl) 54 (.tmp 10) (.tmp 51) (by rfl) _ (numA e0) (by rfl) (by rfl) (numA_info _) (lit4_size _ _ _ _ _) (numA_one _) (by rfl) ?_)
  have lt_g6 := (hK.at g6 (numA c) 54 (.head _)).lt
  have lt_g4 := (hK.at g4 (numA b) 54 (.tail _ (.head _))).lt
  have lt_g2 := (hK.at g2 (numA a) 54 (.tail _ (.tail _ (.head _)))).lt
  have lt_bR := (hK.at bR (PA ⟨0, 0, 0, 0⟩) 56 (.tail _ (.tail _ (.tail _ (.head _))))).lt
  have lt_bK := (hK.at bK (numA k) 54 (.tail _ (.tail _ (.tail _ (.tail _ (.head _)))))).lt
  have lt_bQ := (hK.at bQ (PA ⟨X2, Y2, Z2, T2⟩) 56 (.tail _ (.tail _ (.tail _ (.tail _ (.tail _ (.head _))))))).lt
  have lt_bP := (hK.at bP (PA ⟨X1, Y1, Z1, T1⟩) 56 (.tail _ (.tail _ (.tail _ (.tail _ (.tail _ (.tail _ (.head _)))))))).lt
  have le_b10 := show Hid _ from hK.2.size
  have hK := hK.alloc (numA e0) 54
  generalize V9.alloc (.cells (numA e0) 54) = V11 at *
  obtain ⟨b10, Hb10⟩ : ∃ b, Hid (V9.heap.size = b) := ⟨_, rfl⟩
  have ne_g6_b10 : Hid (g6 ≠ b10) := by show _ ≠ _; rw [← Hb10.out]; exact Nat.ne_of_lt lt_g6
  have ne_g4_b10 : Hid (g4 ≠ b10) := by show _ ≠ _; rw [← Hb10.out]; exact Nat.ne_of_lt lt_g4
  have ne_g2_b10 : Hid (g2 ≠ b10) := by show _ ≠ _; rw [← Hb10.out]; exact Nat.ne_of_lt lt_g2
  have ne_bR_b10 : Hid (bR ≠ b10) := by show _ ≠ _; rw [← Hb10.out]; exact Nat.ne_of_lt lt_bR
  have ne_bK_b10 : Hid (bK ≠ b10) := by show _ ≠ _; rw [← Hb10.out]; exact Nat.ne_of_lt lt_bK
  have ne_bQ_b10 : Hid (bQ ≠ b10) := by show _ ≠ _; rw [← Hb10.out]; exact Nat.ne_of_lt lt_bQ
  have ne_bP_b10 : Hid (bP ≠ b10) := by show _ ≠ _; rw [← Hb10.out]; exact Nat.ne_of_lt lt_bP
  have le_b10 : Hid (w.heap.size ≤ b10) := by show _ ≤ _; rw [← Hb10.out]; exact le_b10.out
  rw [Hb10.out] at hK ⊢
  clear lt_g6 lt_g4 lt_g2 lt_bR lt_bK lt_bQ lt_bP
  go_wp2_with (first
    | refine wpList_load_own (by rfl) 54 (.tmp 10) (by rfl) b10 (by rfl) (numA e0) _ (hK.at b10 (numA e0) 54 (.head _)) Tryz.underlying54 (by rfl) (numA_info _) ?_
    | refine wpList_load_own (by rfl) 54 (.tmp 10) (by rfl) b10 (by rfl) (numA e0) _ (hK.at b10 (numA e0) 54 (.head _)) Tryz.underlying54 (by rfl) (numA_info _) ?_)
  refine (fadd_at he0.out he0.out He.out _).mono ?_
  rintro e V12 ⟨rfl, bw⟩
  have hK := hK.below bw
  clear bw
  go_upto_region 7 with (refine wpList_store_own (by rfl) 54 (.tmp 10) (.tmp 54) (by rfl) b10 0 (numA e) (by rfl) (by rfl) (hK.at b10 (numA e0) 54 (.head _)) (Nat.le_refl _) (numA_info _) (numA_one _) (by rfl) ?_)
  have hK : Kp [(b10, numA e0, 54), (g6, numA c, 54), (g4, numA b, 54), (g2, numA a, 54), (bR, PA ⟨0, 0, 0, 0⟩, 56), (bK, numA k, 54), (bQ, PA ⟨X2, Y2, Z2, T2⟩, 56), (bP, PA ⟨X1, Y1, Z1, T1⟩, 56)] w V12 := ((((((((hK.none.cons (hK.at bP (PA ⟨X1, Y1, Z1, T1⟩) 56 (.tail _ (.tail _ (.tail _ (.tail _ (.tail _ (.tail _ (.tail _ (.head _)))))))))).cons (hK.at bQ (PA ⟨X2, Y2, Z2, T2⟩) 56 (.tail _ (.tail _ (.tail _ (.tail _ (.tail _ (.tail _ (.head _))))))))).cons (hK.at bK (numA k) 54 (.tail _ (.tail _ (.tail _ (.tail _ (.tail _ (.head _)))))))).cons (hK.at bR (PA ⟨0, 0, 0, 0⟩) 56 (.tail _ (.tail _ (.tail _ (.tail _ (.head _))))))).cons (hK.at g2 (numA a) 54 (.tail _ (.tail _ (.tail _ (.head _)))))).cons (hK.at g4 (numA b) 54 (.tail _ (.tail _ (.head _))))).cons (hK.at g6 (numA c) 54 (.tail _ (.head _)))).cons (hK.at b10 (numA e0) 54 (.head _)))
  have hK := Kp.set (A' := numA e) hK (by simp only [List.forall_mem_cons, List.not_mem_nil, false_implies, implies_true, and_true]; exact ⟨ne_g6_b10.out, ne_g4_b10.out, ne_g2_b10.out, ne_bR_b10.out, ne_bK_b10.out, ne_bQ_b10.out, ne_bP_b10.out⟩) le_b10.out (numA_sizes _ _)
  generalize V12.setCells b10 0 (numA e).toList = V13 at *
  refine wp_region_lv 80 (fun _ => [(b10, numA e, 54), (g6, numA c, 54), (g4, numA b, 54), (g2, numA a, 54), (bR, PA ⟨0, 0, 0, 0⟩, 56), (bK, numA k, 54), (bQ, PA ⟨X2, Y2, Z2, T2⟩, 56), (bP, PA ⟨X1, Y1, Z1, T1⟩, 56)]) [.v (.agg (numA b)), .v (.agg (numA a)), .v (.agg (numA h)), .v (.agg (numA e)), .v (.agg (numA c)), .v (.agg (numA f)), .v (.agg (numA e)), .v (.agg (numA c)), .v (.agg (numA g)), .v (.agg (numA b)), .v (.agg (numA a)), .v (.agg (numA i)), .mk (numA 0) (numA h) 54 16, .mk (numA 0) (numA f) 54 17, .mk (numA 0) (numA g) 54 18, .mk (numA 0) (numA i) 54 19, .o, .o, .o, .o] hK (by kernel_rfl) (by kernel_rfl) (by kernel_rfl) (by rfl) ?_ ?_
  · exact .c (.ld g4 (fun _ => .tail _ (.tail _ (.head _))) Tryz.underlying54 rfl (numA_info _)) <| .c (.ld g2 (fun _ => .tail _ (.tail _ (.tail _ (.head _)))) Tryz.underlying54 rfl (numA_info _)) <| .c (.ca fun _ _ _ => fsub_at hb.out ha.out Hh.out _) <| .c (.ld b10 (fun _ => .head _) Tryz.underlying54 rfl (numA_info _)) <| .c (.ld g6 (fun _ => .tail _ (.head _)) Tryz.underlying54 rfl (numA_info _)) <| .c (.ca fun _ _ _ => fsub_at he.out hc.out Hf.out _) <| .c (.ld b10 (fun _ => .head _) Tryz.underlying54 rfl (numA_info _)) <| .c (.ld g6 (fun _ => .tail _ (.head _)) Tryz.underlying54 rfl (numA_info _)) <| .c (.ca fun _ _ _ => fadd_at he.out hc.out Hg.out _) <| .c (.ld g4 (fun _ => .tail _ (.tail _ (.head _))) Tryz.underlying54 rfl (numA_info _)) <| .c (.ld g2 (fun _ => .tail _ (.tail _ (.tail _ (.head _)))) Tryz.underlying54 rfl (numA_info _)) <| .c (.ca fun _ _ _ => fadd_at hb.out ha.out Hi.out _) <| .c (.al hz) <| .c (.al hz) <| .c (.al hz) <| .c (.al hz) <| .c (.st 12 (numA_info _) (numA_one _)) <| .c (.st 13 (numA_info _) (numA_one _)) <| .c (.st 14 (numA_info _) (numA_one _)) <| .c (.st 15 (numA_info _) (numA_one _)) .nil
  intro vs V15 hJ hf
  obtain ⟨g16, hgg16⟩ := hf 12 _ _ rfl rfl
  obtain ⟨le0, apg16, owng16⟩ := hJ.got 12 hgg16
  have le_g16 := show Hid _ from le0
  clear le0
  obtain ⟨g17, hgg17⟩ := hf 13 _ _ rfl rfl
  obtain ⟨le0, apg17, owng17⟩ := hJ.got 13 hgg17
  have le_g17 := show Hid _ from le0
  clear le0
  obtain ⟨g18, hgg18⟩ := hf 14 _ _ rfl rfl
  obtain ⟨le0, apg18, owng18⟩ := hJ.got 14 hgg18
  have le_g18 := show Hid _ from le0
  clear le0
  obtain ⟨g19, hgg19⟩ := hf 15 _ _ rfl rfl
  obtain ⟨le0, apg19, owng19⟩ := hJ.got 15 hgg19
  have le_g19 := show Hid _ from le0
  clear le0
  have ne_g16_g17 := hJ.apart 12 13 hgg16 hgg17
  have ne_g16_g18 := hJ.apart 12 14 hgg16 hgg18
  have ne_g17_g18 := hJ.apart 13 14 hgg17 hgg18
  have ne_g16_g19 := hJ.apart 12 15 hgg16 hgg19
  have ne_g17_g19 := hJ.apart 13 15 hgg17 hgg19
  have ne_g18_g19 := hJ.apart 14 15 hgg18 hgg19
  have ne_bR_g16 : Hid (bR ≠ g16) := apg16 (bR, PA ⟨0, 0, 0, 0⟩, 56) (.tail _ (.tail _ (.tail _ (.tail _ (.head _)))))
  have ne_bR_g17 : Hid (bR ≠ g17) := apg17 (bR, PA ⟨0, 0, 0, 0⟩, 56) (.tail _ (.tail _ (.tail _ (.tail _ (.head _)))))
  have ne_bR_g18 : Hid (bR ≠ g18) := apg18 (bR, PA ⟨0, 0, 0, 0⟩, 56) (.tail _ (.tail _ (.tail _ (.tail _ (.head _)))))
  have ne_bR_g19 : Hid (bR ≠ g19) := apg19 (bR, PA ⟨0, 0, 0, 0⟩, 56) (.tail _ (.tail _ (.tail _ (.tail _ (.head _)))))
  have hK : Kp [(g19, numA i, 54), (g18, numA g, 54), (g17, numA f, 54), (g16, numA h, 54), (b10, numA e, 54), (g6, numA c, 54), (g4, numA b, 54), (g2, numA a, 54), (bR, PA ⟨0, 0, 0, 0⟩, 56), (bK, numA k, 54), (bQ, PA ⟨X2, Y2, Z2, T2⟩, 56), (bP, PA ⟨X1, Y1, Z1, T1⟩, 56)] w V15 := ((((hJ.1.cons owng16).cons owng17).cons owng18).cons owng19)
  simp only [putL, Lv.val, Nat.zero_add, Nat.reduceAdd, hgg16, hgg17, hgg18, hgg19, Act.put, List.setIfInBounds_toArray, List.set_cons_succ, List.set_cons_zero]
  clear hJ hf hgg16 hgg17 hgg18 hgg19 apg16 apg17 apg18 apg19 owng16 owng17 owng18 owng19
  go_upto_region 8 with fail
  have hK : Kp [(g19, numA i, 54), (g18, numA g, 54), (g17, numA f, 54), (g16, numA h, 54), (bR, PA ⟨0, 0, 0, 0⟩, 56)] w V15 := (((((hK.none.cons (hK.at bR (PA ⟨0, 0, 0, 0⟩) 56 (.tail _ (.tail _ (.tail _ (.tail _ (.tail _ (.tail _ (.tail _ (.tail _ (.head _))))))))))).cons (hK.at g16 (numA h) 54 (.tail _ (.tail _ (.tail _ (.head _)))))).cons (hK.at g17 (numA f) 54 (.tail _ (.tail _ (.head _))))).cons (hK.at g18 (numA g) 54 (.tail _ (.head _)))).cons (hK.at g19 (numA i) 54 (.head _)))
  refine wp_region_lv 80 (fun L => [(g19, numA i, 54), (g18, numA g, 54), (g17, numA f, 54), (g16, numA h, 54), (bR, if L 13 = true then PA ⟨X, Y, Z, T⟩ else PA ⟨0, 0, 0, 0⟩, 56)]) [.v (.agg (numA h)), .v (.agg (numA f)), .v (.agg (numA X)), .v (.agg (numA g)), .v (.agg (numA i)), .v (.agg (numA Y)), .v (.agg (numA f)), .v (.agg (numA g)), .v (.agg (numA Z)), .v (.agg (numA h)), .v (.agg (numA i)), .v (.agg (numA T)), .v (.agg (PA ⟨X, Y, Z, T⟩)), .o] hK (by kernel_rfl) (by kernel_rfl) (by kernel_rfl) (by rfl) ?_ ?_
  · exact .c (.ld g16 (fun _ => .tail _ (.tail _ (.tail _ (.head _)))) Tryz.underlying54 rfl (numA_info _)) <| .c (.ld g17 (fun _ => .tail _ (.tail _ (.head _))) Tryz.underlying54 rfl (numA_info _)) <| .c (.ca fun _ _ _ => mul_at hh.out hf.out HX.out _) <| .c (.ld g18 (fun _ => .tail _ (.head _)) Tryz.underlying54 rfl (numA_info _)) <| .c (.ld g19 (fun _ => .head _) Tryz.underlying54 rfl (numA_info _)) <| .c (.ca fun _ _ _ => mul_at hg.out hi.out HY.out _) <| .c (.ld g17 (fun _ => .tail _ (.tail _ (.head _))) Tryz.underlying54 rfl (numA_info _)) <| .c (.ld g18 (fun _ => .tail _ (.head _)) Tryz.underlying54 rfl (numA_info _)) <| .c (.ca fun _ _ _ => mul_at hf.out hg.out HZ.out _) <| .c (.ld g16 (fun _ => .tail _ (.tail _ (.tail _ (.head _)))) Tryz.underlying54 rfl (numA_info _)) <| .c (.ld g19 (fun _ => .head _) Tryz.underlying54 rfl (numA_info _)) <| .c (.ca fun _ _ _ => mul_at hh.out hi.out HT.out _) <| .c (.x [(69, .agg (numA X)), (72, .agg (numA Y)), (75, .agg (numA Z)), (78, .agg (numA T))] fun _ _ _ _ _ hfx hkx hx => wp_build_pt 69 72 75 78 (X) (Y) (Z) (T) rfl (hfx _ (.head _)) (hfx _ (.tail _ (.head _))) (hfx _ (.tail _ (.tail _ (.head _)))) (hfx _ (.tail _ (.tail _ (.tail _ (.head _))))) (hx _ _ rfl (Below.refl _ _))) <| .c (.sk bR (.nx (fun _ => rfl) (fun _ => rfl) (fun _ => Ne.symm ne_bR_g19.out) <| .nx (fun _ => rfl) (fun _ => rfl) (fun _ => Ne.symm ne_bR_g18.out) <| .nx (fun _ => rfl) (fun _ => rfl) (fun _ => Ne.symm ne_bR_g17.out) <| .nx (fun _ => rfl) (fun _ => rfl) (fun _ => Ne.symm ne_bR_g16.out) <| .hr (fun _ => rfl) (fun _ => rfl) (fun _ => fn)) le_bR.out (PA_info _) (PA_one _)) .nil
  intro _ V20 hJ _
  have hK : Kp [(g19, numA i, 54), (g18, numA g, 54), (g17, numA f, 54), (g16, numA h, 54), (bR, PA ⟨X, Y, Z, T⟩, 56)] w V20 := hJ.1
  clear hJ
  simp only [putL, Lv.val, Act.put, List.setIfInBounds_toArray, List.set_cons_succ, List.set_cons_zero]
  go_wp2_with fail
  exact bodyPost_ret (results_own Tryz.results76 _ _ bR (PA ⟨X, Y, Z, T⟩) _ (by rfl) (hK.at bR (PA ⟨X, Y, Z, T⟩) 56 (.tail _ (.tail _ (.tail _ (.tail _ (.head _)))))) Tryz.underlying56 rfl (PA_info _)) rfl ⟨rfl, hK.2⟩
end Go.Proofs.YtgibllaifnnfkaaGreatDoor
namespace Go.Proofs.YtgibllaifnnfkaaGreatDoor
open Go Go.RowKit
structure N4.ok (r : N4) : Prop where
  x : r.X < R256
  y : r.Y < R256
  z : r.Z < R256
  t : r.T < R256
theorem plus4_ok (p q : N4) : (plus4 p q).ok := ⟨lt_of_mod, lt_of_mod, lt_of_mod, lt_of_mod⟩
theorem zero4_ok : zero4.ok := ⟨by decide, by decide, by decide, by decide⟩
theorem dd_R : dd < R256 := Nat.lt_trans dd_lt (by decide)
theorem plus_any (p q : N4) (hp : p.ok) (hq : q.ok) (w : World) :
    Calls Tryz.prog 76 #[.agg (PA p), .agg (PA q), .agg (numA dd)] w fun x w' => x = .returned (.agg (PA (plus4 p q))) ∧ Below w.heap.size w w' :=
  plus_nat hp.x hp.y hp.z hp.t hq.x hq.y hq.z hq.t dd_R rfl w
theorem mul4_bit0 {p o : N4} {n i : Nat} (hi : i < 256) (ho : o = mul4 p (256 - (i + 1)) (n / 2 ^ (i + 1))) (hb : n / 2 ^ i % 2 = 0) : plus4 o o = mul4 p (256 - i) (n / 2 ^ i) := by
  rw [show 256 - i = 256 - (i + 1) + 1 by omega, mul4, if_neg (by omega), Nat.div_div_eq_div_mul, ← Nat.pow_succ, ← ho]
theorem mul4_bit1 {p o : N4} {n i : Nat} (hi : i < 256) (ho : o = mul4 p (256 - (i + 1)) (n / 2 ^ (i + 1))) (hb : n / 2 ^ i % 2 = 1) : plus4 (plus4 o o) p = mul4 p (256 - i) (n / 2 ^ i) := by
  rw [show 256 - i = 256 - (i + 1) + 1 by omega, mul4, if_pos hb, Nat.div_div_eq_div_mul, ← Nat.pow_succ, ← ho]
theorem mul4_from (p : N4) (n : Nat) : zero4 = mul4 p (256 - 256) (n / 2 ^ 256) := by rw [Nat.sub_self, mul4]
set_option maxRecDepth 100000 in
set_option maxHeartbeats 2000000 in
theorem multiple_any (n : Nat) (hn : n < R256) (p : N4) (hp : p.ok) (w : World) : Calls Tryz.prog 75 #[.agg (numA n), .agg (PA p)] w fun x w' => x = .returned (.agg (PA (mul4 p 256 n))) ∧ Below w.heap.size w w' := by
  obtain ⟨r, Hr⟩ : ∃ r, Hid (mul4 p 256 n = r) := ⟨_, rfl⟩
  have Hp := show Hid _ from hp
  have Hn := show Hid _ from hn
  clear hp hn
  rw [Hr.out]
  have hz := (zero_of_info zeroLit).1
  have hzP := (zero_of_info zeroPA).1
  go_enter Tryz.func75, Tryz.ntmps75
  go_upto_region 1 with fail
  have hK := (((Kp.nil w).alloc (numA n) 54).alloc (PA p) 56).alloc (PA ⟨0, 0, 0, 0⟩) 56
  rw [World.size_alloc, World.size_alloc] at hK
  generalize ((w.alloc (.cells (numA n) 54)).alloc (.cells (PA p) 56)).alloc (.cells (PA ⟨0, 0, 0, 0⟩) 56) = W at *
  obtain ⟨bN, HN⟩ : ∃ b, Hid (w.heap.size = b) := ⟨_, rfl⟩
  obtain ⟨bP, HP⟩ : ∃ b, Hid (bN + 1 = b) := ⟨_, rfl⟩
  obtain ⟨bR, HR⟩ : ∃ b, Hid (bP + 1 = b) := ⟨_, rfl⟩
  have le_bR : Hid (w.heap.size ≤ bR) := by show _ ≤ _; have := HN.out; have := HP.out; have := HR.out; omega
  rw [HN.out, HP.out, HR.out] at hK ⊢
  go_wp2_with fail
  refine (d_any _).mono ?_
  rintro x w1 ⟨rfl, b1⟩
  have hK := hK.below b1
  go_upto_region 2 with (refine wpList_store_new (by rfl) 54 (.tmp 5) (.tmp 8) (by rfl) _ (numA dd) (by rfl) (by rfl) (numA_info _) (lit4_size _ _ _ _ _) (numA_one _) (by rfl) ?_)
  have hK := hK.alloc (numA dd) 54
  generalize w1.alloc (.cells (numA dd) 54) = W1 at *
  obtain ⟨bK, HB⟩ : ∃ b, Hid (w1.heap.size = b) := ⟨_, rfl⟩
  rw [HB.out] at hK ⊢
  go_wp2_with fail
  refine (zero_any _).mono ?_
  rintro x w2 ⟨rfl, b2⟩
  have hK := hK.below b2
  have ne1 := show Hid _ from fun z hz => Nat.ne_of_lt (hK.1 z hz).lt
  have leO := show Hid _ from hK.2.size
  go_upto_region 3 with (refine wpList_store_new (by rfl) 56 (.tmp 6) (.tmp 9) (by rfl) _ (PA zero4) (by rfl) (by rfl) (PA_info _) (PA_sizes _ _) (PA_one _) (by rfl) ?_)
  have hK := hK.alloc (PA zero4) 56
  generalize w2.alloc (.cells (PA zero4) 56) = W2 at *
  obtain ⟨bO, HO⟩ : ∃ b, Hid (w2.heap.size = b) := ⟨_, rfl⟩
  have leO : Hid (w.heap.size ≤ bO) := by show _ ≤ _; rw [← HO.out]; exact leO.out
  have nots : Hid (∀ z ∈ [(bK, numA dd, 54), (bR, PA ⟨0, 0, 0, 0⟩, 56), (bP, PA p, 56), (bN, numA n, 54)], z.1 ≠ bO) := by
    show ∀ _, _
    rw [← HO.out]; exact ne1.out
  rw [HO.out] at hK ⊢
  clear ne1 b1 b2
  go_wp2_with fail
  go_loopw [7] (fun ii wr => ∃ (j : Nat) (o : N4), j ≤ 256 ∧ ii = .int .i64 ((j : Int) - 1) ∧ Hid o.ok ∧ Hid (o = mul4 p (256 - j) (n / 2 ^ j)) ∧ Kp [(bO, PA o, 56), (bK, numA dd, 54), (bR, PA ⟨0, 0, 0, 0⟩, 56), (bP, PA p, 56), (bN, numA n, 54)] w wr) (fun ii _ => (intOf ii + 1).toNat)
  case atStart => exact ⟨256, zero4, by omega, rfl, zero4_ok, mul4_from p n, hK⟩
  case round =>
    obtain ⟨j, o, hj, rfl, ho, Ho, hKr⟩ := hrel
    cases j with
    | zero =>
      rw [show (((0 : Nat) : Int) - 1) = -1 from rfl]
      have Hend : Hid (o = r) := by
        show _ = _
        rw [Ho.out, Nat.pow_zero, Nat.div_one, ← Hr.out]
      go_upto_region 9 with fail
      go_wp2_with (first
        | refine wpList_load_own (by rfl) 56 (.tmp 6) (by rfl) bO (by rfl) (PA o) _ (hKr.at bO (PA o) 56 (.head _)) Tryz.underlying56 (by rfl) (PA_info _) ?_
        | refine wpList_store_own (by rfl) 56 (.tmp 4) (.tmp 32) (by rfl) bR 0 (PA o) (by rfl) (by rfl) (hKr.at bR (PA ⟨0, 0, 0, 0⟩) 56 (.tail _ (.tail _ (.head _)))) (Nat.le_refl _) (PA_info _) (PA_one _) (by rfl) ?_)
      refine bodyPost_ret (results_own Tryz.results75 _ _ bR (PA o) _ (by rfl) (own_setCells (hKr.at bR (PA ⟨0, 0, 0, 0⟩) 56 (.tail _ (.tail _ (.head _)))) (PA_sizes _ _)) Tryz.underlying56 rfl (PA_info _)) rfl ⟨by rw [Hend.out], ?_⟩
      exact Below.setCells _ _ _ _ le_bR.out hKr.2
    | succ i =>
      rw [show (((i + 1 : Nat) : Int) - 1) = (i : Int) by omega]
      have hi0 : (0 : Int) ≤ (i : Int) := by omega
      have hi1 : (i : Int) < 256 := by omega
      have hi2 : Hid (i < 256) := by show _ < _; omega
      go_upto_region 6 with fail
      go_wp2_with (first
        | refine wpList_load_own (by rfl) 56 (.tmp 6) (by rfl) bO (by rfl) (PA o) _ (hKr.at bO (PA o) 56 (.head _)) Tryz.underlying56 (by rfl) (PA_info _) ?_
        | refine wpList_load_own (by rfl) 54 (.tmp 5) (by rfl) bK (by rfl) (numA dd) _ (hKr.at bK (numA dd) 54 (.tail _ (.head _))) Tryz.underlying54 (by rfl) (numA_info _) ?_)
      refine (plus_any o o ho.out ho.out wr).mono ?_
      rintro x w1 ⟨rfl, hB1⟩
      have hK2 := hKr.below hB1
      obtain ⟨q, Hq⟩ : ∃ q, Hid (plus4 o o = q) := ⟨_, rfl⟩
      have hq : Hid q.ok := by show q.ok; rw [← Hq.out]; exact plus4_ok _ _
      rw [Hq.out]
      have hK3 := hK2.set (A' := PA q) nots.out leO.out (PA_sizes q o)
      go_upto_region 7 with (refine wpList_store_own (by rfl) 56 (.tmp 6) (.tmp 17) (by rfl) bO 0 (PA q) (by rfl) (by rfl) (hK2.at bO (PA o) 56 (.head _)) (Nat.le_refl _) (PA_info _) (PA_one _) (by rfl) ?_)
      generalize w1.setCells bO 0 (PA q).toList = W3 at *
      clear hK2 hB1 hKr hK
      have hdv : (i : Int).tdiv 64 = ((i / 64 : Nat) : Int) := by rw [Int.tdiv_eq_ediv_of_nonneg (by omega)]; omega
      have hmd : (i : Int).tmod 64 = ((i % 64 : Nat) : Int) := by rw [Int.tmod_eq_emod_of_nonneg (by omega)]; omega
      have hd4 : i / 64 < 4 := by omega
      have cE := (hK3.at bN (numA n) 54 (.tail _ (.tail _ (.tail _ (.tail _ (.head _)))))).cell (numA_at n (i / 64) hd4)
      have hbit := bit_u64 n i
      have hd40 : (0 : Int) ≤ ((i / 64 : Nat) : Int) := by omega
      have hd41 : ((i / 64 : Nat) : Int) < 4 := by omega
      have hm0 : (0 : Int) ≤ ((i % 64 : Nat) : Int) := by omega
      have hm1 : ((i % 64 : Nat) : Int) < 64 := by omega
      generalize dig n (i / 64) = d at *
      generalize i / 64 = D at *
      generalize i % 64 = M at *
      have hb2 : n / 2 ^ i % 2 = 0 ∨ n / 2 ^ i % 2 = 1 := by omega
      rcases hb2 with hb | hb
      · have Hst := show Hid _ from mul4_bit0 hi2.out Ho.out hb
        rw [hb] at hbit
        clear hb
        go_wp2_with fail
        exact ⟨⟨i, q, by omega, rfl, hq, by show _ = _; rw [← Hq.out]; exact Hst.out, hK3⟩, by simp [intOf]⟩
      · have Hst := show Hid _ from mul4_bit1 hi2.out Ho.out hb
        rw [hb] at hbit
        clear hb
        go_upto_region 8 with fail
        clear hbit cE hdv hmd
        go_wp2_with (first
          | refine wpList_load_own (by rfl) 56 (.tmp 6) (by rfl) bO (by rfl) (PA q) _ (hK3.at bO (PA q) 56 (.head _)) Tryz.underlying56 (by rfl) (PA_info _) ?_
          | refine wpList_load_own (by rfl) 56 (.tmp 3) (by rfl) bP (by rfl) (PA p) _ (hK3.at bP (PA p) 56 (.tail _ (.tail _ (.tail _ (.head _))))) Tryz.underlying56 (by rfl) (PA_info _) ?_
          | refine wpList_load_own (by rfl) 54 (.tmp 5) (by rfl) bK (by rfl) (numA dd) _ (hK3.at bK (numA dd) 54 (.tail _ (.head _))) Tryz.underlying54 (by rfl) (numA_info _) ?_)
        refine (plus_any q p hq.out Hp.out W3).mono ?_
        rintro x w3 ⟨rfl, hB3⟩
        have hK4 := hK3.below hB3
        obtain ⟨q2, Hq2⟩ : ∃ q2, Hid (plus4 q p = q2) := ⟨_, rfl⟩
        have hq2 : Hid q2.ok := by show q2.ok; rw [← Hq2.out]; exact plus4_ok _ _
        rw [Hq2.out]
        have hK5 := hK4.set (A' := PA q2) nots.out leO.out (PA_sizes q2 q)
        go_upto_region 5 with (refine wpList_store_own (by rfl) 56 (.tmp 6) (.tmp 31) (by rfl) bO 0 (PA q2) (by rfl) (by rfl) (hK4.at bO (PA q) 56 (.head _)) (Nat.le_refl _) (PA_info _) (PA_one _) (by rfl) ?_)
        generalize w3.setCells bO 0 (PA q2).toList = W4 at *
        go_wp2_with fail
        exact ⟨⟨i, q2, by omega, rfl, hq2, by show _ = _; rw [← Hq2.out, ← Hq.out]; exact Hst.out, hK5⟩, by simp [intOf]⟩
end Go.Proofs.YtgibllaifnnfkaaGreatDoor
