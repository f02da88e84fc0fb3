/- Of the texts G3: what the card of this claim reaches. -/
import Derived.Test.YtgibllaifnnfkaaGreatDoorXE12
import Derived.Test.YtgibllaifnnfkaaGreatDoorXE4
namespace Go.Proofs.YtgibllaifnnfkaaGreatDoor
open Go Go.RowKit
set_option maxRecDepth 100000 in
set_option maxHeartbeats 6000000 in
theorem double_nat {X1 Y1 Z1 : Nat} (hX1 : Hid (X1 < R256)) (hY1 : Hid (Y1 < R256)) (hZ1 : Hid (Z1 < R256)) (w : World) (hT : TC w) :
    Calls Tryz.prog 113 #[.agg (QA ⟨X1, Y1, Z1⟩)] w fun x w' => x = .returned (.agg (QA (dbl3 ⟨X1, Y1, Z1⟩))) ∧ Below w.heap.size w w' := by
  have hz := (zero_of_info zeroB32).1
  have hzP := (zero_of_info zeroQA).1
  obtain ⟨xx, Hxx⟩ : ∃ z, Hid (X1 * X1 % pp = z) := ⟨_, rfl⟩
  have hxx : Hid (xx < R256) := by show _ < _; rw [← Hxx.out]; exact lt_of_mod
  obtain ⟨yy, Hyy⟩ : ∃ z, Hid (Y1 * Y1 % pp = z) := ⟨_, rfl⟩
  have hyy : Hid (yy < R256) := by show _ < _; rw [← Hyy.out]; exact lt_of_mod
  obtain ⟨zz, Hzz⟩ : ∃ z, Hid (Z1 * Z1 % pp = z) := ⟨_, rfl⟩
  have hzz : Hid (zz < R256) := by show _ < _; rw [← Hzz.out]; exact lt_of_mod
  obtain ⟨xy, Hxy⟩ : ∃ z, Hid (X1 * Y1 % pp = z) := ⟨_, rfl⟩
  have hxy : Hid (xy < R256) := by show _ < _; rw [← Hxy.out]; exact lt_of_mod
  obtain ⟨ov, Hov⟩ : ∃ z, Hid (subp yy xx = z) := ⟨_, rfl⟩
  have hov : Hid (ov < R256) := by show _ < _; rw [← Hov.out]; exact subp_R _ _
  obtain ⟨z2, Hz2⟩ : ∃ z, Hid ((zz + zz) % pp = z) := ⟨_, rfl⟩
  have hz2 : Hid (z2 < R256) := by show _ < _; rw [← Hz2.out]; exact lt_of_mod
  obtain ⟨un, Hun⟩ : ∃ z, Hid (subp z2 ov = z) := ⟨_, rfl⟩
  have hun : Hid (un < R256) := by show _ < _; rw [← Hun.out]; exact subp_R _ _
  obtain ⟨x2, Hx2⟩ : ∃ z, Hid ((xy + xy) % pp = z) := ⟨_, rfl⟩
  have hx2 : Hid (x2 < R256) := by show _ < _; rw [← Hx2.out]; exact lt_of_mod
  obtain ⟨X, HX⟩ : ∃ z, Hid (x2 * un % pp = z) := ⟨_, rfl⟩
  have hX : Hid (X < R256) := by show _ < _; rw [← HX.out]; exact lt_of_mod
  obtain ⟨yx, Hyx⟩ : ∃ z, Hid ((yy + xx) % pp = z) := ⟨_, rfl⟩
  have hyx : Hid (yx < R256) := by show _ < _; rw [← Hyx.out]; exact lt_of_mod
  obtain ⟨Y, HY⟩ : ∃ z, Hid (yx * ov % pp = z) := ⟨_, rfl⟩
  have hY : Hid (Y < R256) := by show _ < _; rw [← HY.out]; exact lt_of_mod
  obtain ⟨Z, HZ⟩ : ∃ z, Hid (ov * un % pp = z) := ⟨_, rfl⟩
  have hZ : Hid (Z < R256) := by show _ < _; rw [← HZ.out]; exact lt_of_mod
  have He3 : Hid (dbl3 ⟨X1, Y1, Z1⟩ = ⟨X, Y, Z⟩) := by
    show _ = _
    rw [← HZ.out, ← HY.out, ← Hyx.out, ← HX.out, ← Hx2.out, ← Hun.out, ← Hz2.out, ← Hov.out, ← Hxy.out, ← Hzz.out, ← Hyy.out, ← Hxx.out]
    rfl
  rw [He3.out]
  go_enter Tryz.func113, Tryz.ntmps113
  go_upto_region 1 with fail
  have hK := ((Kp.nil w).alloc (QA ⟨X1, Y1, Z1⟩) 74).alloc (QA ⟨0, 0, 0⟩) 74
  rw [World.size_alloc] at hK
  generalize (w.alloc (.cells (QA ⟨X1, Y1, Z1⟩) 74)).alloc (.cells (QA ⟨0, 0, 0⟩) 74) = W at *
  obtain ⟨bP, HbP⟩ : ∃ b, Hid (w.heap.size = b) := ⟨_, rfl⟩
  obtain ⟨bR, HbR⟩ : ∃ b, Hid (bP + 1 = b) := ⟨_, rfl⟩
  have le_bP : Hid (w.heap.size ≤ bP) := by show _ ≤ _; have := HbP.out; omega
  have le_bR : Hid (w.heap.size ≤ bR) := by show _ ≤ _; have := HbP.out; have := HbR.out; omega
  have ne_bP_bR : Hid (bP ≠ bR) := by show _ ≠ _; have := HbR.out; omega
  rw [HbP.out, HbR.out] at hK ⊢
  refine wp_region_lv 51 (fun _ => [(bR, QA ⟨0, 0, 0⟩, 74), (bP, QA ⟨X1, Y1, Z1⟩, 74)]) [.v (.pointer (some ⟨bP, 0, none⟩)), .v (.agg (B32 (bdig X1))), .v (.pointer (some ⟨bP, 0, none⟩)), .v (.agg (B32 (bdig X1))), .v (.agg (B32 (bdig xx))), .v (.pointer (some ⟨bP, 32, none⟩)), .v (.agg (B32 (bdig Y1))), .v (.pointer (some ⟨bP, 32, none⟩)), .v (.agg (B32 (bdig Y1))), .v (.agg (B32 (bdig yy))), .v (.pointer (some ⟨bP, 64, none⟩)), .v (.agg (B32 (bdig Z1))), .v (.pointer (some ⟨bP, 64, none⟩)), .v (.agg (B32 (bdig Z1))), .v (.agg (B32 (bdig zz))), .mk (B32 fun _ => 0) (B32 (bdig xx)) 22 18, .mk (B32 fun _ => 0) (B32 (bdig yy)) 22 19, .mk (B32 fun _ => 0) (B32 (bdig zz)) 22 20, .o, .o, .o] hK (by kernel_rfl) (by kernel_rfl) (by kernel_rfl) (by rfl) ?_ ?_
  · exact .c (.p1 1 (.pointer (some ⟨bP, 0, none⟩))) <| .c (.x [(9, .pointer (some ⟨bP, 0, none⟩))] fun _ _ _ _ _ hfx hkx hx => wp_load_prt 0 (by decide) (.tmp 9) rfl bP (hfx _ (.head _)) (hkx.at bP (QA ⟨X1, Y1, Z1⟩) 74 (.tail _ (.head _))) (hx _ _ rfl (Below.refl _ _))) <| .c (.p1 1 (.pointer (some ⟨bP, 0, none⟩))) <| .c (.x [(11, .pointer (some ⟨bP, 0, none⟩))] fun _ _ _ _ _ hfx hkx hx => wp_load_prt 0 (by decide) (.tmp 11) rfl bP (hfx _ (.head _)) (hkx.at bP (QA ⟨X1, Y1, Z1⟩) 74 (.tail _ (.head _))) (hx _ _ rfl (Below.refl _ _))) <| .c (.ca fun _ _ hkx => cmul hX1.out hX1.out Hxx.out _ (TC.keep hT hkx.2)) <| .c (.p1 1 (.pointer (some ⟨bP, 0, none⟩))) <| .c (.x [(14, .pointer (some ⟨bP, 32, none⟩))] fun _ _ _ _ _ hfx hkx hx => wp_load_prt 1 (by decide) (.tmp 14) rfl bP (hfx _ (.head _)) (hkx.at bP (QA ⟨X1, Y1, Z1⟩) 74 (.tail _ (.head _))) (hx _ _ rfl (Below.refl _ _))) <| .c (.p1 1 (.pointer (some ⟨bP, 0, none⟩))) <| .c (.x [(16, .pointer (some ⟨bP, 32, none⟩))] fun _ _ _ _ _ hfx hkx hx => wp_load_prt 1 (by decide) (.tmp 16) rfl bP (hfx _ (.head _)) (hkx.at bP (QA ⟨X1, Y1, Z1⟩) 74 (.tail _ (.head _))) (hx _ _ rfl (Below.refl _ _))) <| .c (.ca fun _ _ hkx => cmul hY1.out hY1.out Hyy.out _ (TC.keep hT hkx.2)) <| .c (.p1 1 (.pointer (some ⟨bP, 0, none⟩))) <| .c (.x [(19, .pointer (some ⟨bP, 64, none⟩))] fun _ _ _ _ _ hfx hkx hx => wp_load_prt 2 (by decide) (.tmp 19) rfl bP (hfx _ (.head _)) (hkx.at bP (QA ⟨X1, Y1, Z1⟩) 74 (.tail _ (.head _))) (hx _ _ rfl (Below.refl _ _))) <| .c (.p1 1 (.pointer (some ⟨bP, 0, none⟩))) <| .c (.x [(21, .pointer (some ⟨bP, 64, none⟩))] fun _ _ _ _ _ hfx hkx hx => wp_load_prt 2 (by decide) (.tmp 21) rfl bP (hfx _ (.head _)) (hkx.at bP (QA ⟨X1, Y1, Z1⟩) 74 (.tail _ (.head _))) (hx _ _ rfl (Below.refl _ _))) <| .c (.ca fun _ _ hkx => cmul hZ1.out hZ1.out Hzz.out _ (TC.keep hT hkx.2)) <| .c (.al hz) <| .c (.al hz) <| .c (.al hz) <| .c (.st 15 (B32_info _) (B32_one _)) <| .c (.st 16 (B32_info _) (B32_one _)) <| .c (.st 17 (B32_info _) (B32_one _)) .nil
  intro vs V2 hJ hf
  obtain ⟨g3, hgg3⟩ := hf 15 _ _ rfl rfl
  obtain ⟨le0, apg3, owng3⟩ := hJ.got 15 hgg3
  have le_g3 := show Hid _ from le0
  clear le0
  obtain ⟨g4, hgg4⟩ := hf 16 _ _ rfl rfl
  obtain ⟨le0, apg4, owng4⟩ := hJ.got 16 hgg4
  have le_g4 := show Hid _ from le0
  clear le0
  obtain ⟨g5, hgg5⟩ := hf 17 _ _ rfl rfl
  obtain ⟨le0, apg5, owng5⟩ := hJ.got 17 hgg5
  have le_g5 := show Hid _ from le0
  clear le0
  have ne_g3_g4 := hJ.apart 15 16 hgg3 hgg4
  have ne_g3_g5 := hJ.apart 15 17 hgg3 hgg5
  have ne_g4_g5 := hJ.apart 16 17 hgg4 hgg5
  have ne_bR_g3 : Hid (bR ≠ g3) := apg3 (bR, QA ⟨0, 0, 0⟩, 74) (.head _)
  have ne_bR_g4 : Hid (bR ≠ g4) := apg4 (bR, QA ⟨0, 0, 0⟩, 74) (.head _)
  have ne_bR_g5 : Hid (bR ≠ g5) := apg5 (bR, QA ⟨0, 0, 0⟩, 74) (.head _)
  have hK : Kp [(g5, B32 (bdig zz), 22), (g4, B32 (bdig yy), 22), (g3, B32 (bdig xx), 22), (bR, QA ⟨0, 0, 0⟩, 74), (bP, QA ⟨X1, Y1, Z1⟩, 74)] w V2 := (((hJ.1.cons owng3).cons owng4).cons owng5)
  simp only [putL, Lv.val, Nat.zero_add, Nat.reduceAdd, hgg3, hgg4, hgg5, Act.put, List.setIfInBounds_toArray, List.set_cons_succ, List.set_cons_zero]
  clear hJ hf hgg3 hgg4 hgg5 apg3 apg4 apg5 owng3 owng4 owng5
  go_upto_region 2 with fail
  go_wp2_with (first
    | refine wpList_load_prt (by rfl) 0 (by decide) (.tmp 24) (by rfl) bP (by rfl) (hK.at bP (QA ⟨X1, Y1, Z1⟩) 74 (.tail _ (.tail _ (.tail _ (.tail _ (.head _)))))) ?_
    | refine wpList_load_prt (by rfl) 1 (by decide) (.tmp 26) (by rfl) bP (by rfl) (hK.at bP (QA ⟨X1, Y1, Z1⟩) 74 (.tail _ (.tail _ (.tail _ (.tail _ (.head _)))))) ?_)
  refine (cmul hX1.out hY1.out Hxy.out _ (TC.keep hT hK.2)).mono ?_
  rintro e V6 ⟨rfl, bw⟩
  have hK := hK.below bw
  clear bw
  go_upto_region 3 with (refine wpList_store_new (by rfl) 22 (.tmp 6) (.tmp 28) (by rfl) _ (B32 (bdig xy)) (by rfl) (by rfl) (B32_info _) (B32_sizes _ _) (B32_one _) (by rfl) ?_)
  have lt_g5 := (hK.at g5 (B32 (bdig zz)) 22 (.head _)).lt
  have lt_g4 := (hK.at g4 (B32 (bdig yy)) 22 (.tail _ (.head _))).lt
  have lt_g3 := (hK.at g3 (B32 (bdig xx)) 22 (.tail _ (.tail _ (.head _)))).lt
  have lt_bR := (hK.at bR (QA ⟨0, 0, 0⟩) 74 (.tail _ (.tail _ (.tail _ (.head _))))).lt
  have lt_bP := (hK.at bP (QA ⟨X1, Y1, Z1⟩) 74 (.tail _ (.tail _ (.tail _ (.tail _ (.head _)))))).lt
  have le_b7 := show Hid _ from hK.2.size
  have hK := hK.alloc (B32 (bdig xy)) 22
  generalize V6.alloc (.cells (B32 (bdig xy)) 22) = V8 at *
  obtain ⟨b7, Hb7⟩ : ∃ b, Hid (V6.heap.size = b) := ⟨_, rfl⟩
  have ne_g5_b7 : Hid (g5 ≠ b7) := by show _ ≠ _; rw [← Hb7.out]; exact Nat.ne_of_lt lt_g5
  have ne_g4_b7 : Hid (g4 ≠ b7) := by show _ ≠ _; rw [← Hb7.out]; exact Nat.ne_of_lt lt_g4
  have ne_g3_b7 : Hid (g3 ≠ b7) := by show _ ≠ _; rw [← Hb7.out]; exact Nat.ne_of_lt lt_g3
  have ne_bR_b7 : Hid (bR ≠ b7) := by show _ ≠ _; rw [← Hb7.out]; exact Nat.ne_of_lt lt_bR
  have ne_bP_b7 : Hid (bP ≠ b7) := by show _ ≠ _; rw [← Hb7.out]; exact Nat.ne_of_lt lt_bP
  have le_b7 : Hid (w.heap.size ≤ b7) := by show _ ≤ _; rw [← Hb7.out]; exact le_b7.out
  rw [Hb7.out] at hK ⊢
  clear lt_g5 lt_g4 lt_g3 lt_bR lt_bP
  go_wp2_with (first
    | refine wpList_load_own (by rfl) 22 (.tmp 4) (by rfl) g4 (by rfl) (B32 (bdig yy)) _ (hK.at g4 (B32 (bdig yy)) 22 (.tail _ (.tail _ (.head _)))) Tryz.underlying22 (by rfl) (B32_info _) ?_
    | refine wpList_load_own (by rfl) 22 (.tmp 3) (by rfl) g3 (by rfl) (B32 (bdig xx)) _ (hK.at g3 (B32 (bdig xx)) 22 (.tail _ (.tail _ (.tail _ (.head _))))) Tryz.underlying22 (by rfl) (B32_info _) ?_)
  refine (csub hyy.out hxx.out Hov.out _ (TC.keep hT hK.2)).mono ?_
  rintro e V9 ⟨rfl, bw⟩
  have hK := hK.below bw
  clear bw
  go_upto_region 4 with (refine wpList_store_new (by rfl) 22 (.tmp 7) (.tmp 31) (by rfl) _ (B32 (bdig ov)) (by rfl) (by rfl) (B32_info _) (B32_sizes _ _) (B32_one _) (by rfl) ?_)
  have lt_b7 := (hK.at b7 (B32 (bdig xy)) 22 (.head _)).lt
  have lt_g5 := (hK.at g5 (B32 (bdig zz)) 22 (.tail _ (.head _))).lt
  have lt_g4 := (hK.at g4 (B32 (bdig yy)) 22 (.tail _ (.tail _ (.head _)))).lt
  have lt_g3 := (hK.at g3 (B32 (bdig xx)) 22 (.tail _ (.tail _ (.tail _ (.head _))))).lt
  have lt_bR := (hK.at bR (QA ⟨0, 0, 0⟩) 74 (.tail _ (.tail _ (.tail _ (.tail _ (.head _)))))).lt
  have lt_bP := (hK.at bP (QA ⟨X1, Y1, Z1⟩) 74 (.tail _ (.tail _ (.tail _ (.tail _ (.tail _ (.head _))))))).lt
  have le_b10 := show Hid _ from hK.2.size
  have hK := hK.alloc (B32 (bdig ov)) 22
  generalize V9.alloc (.cells (B32 (bdig ov)) 22) = V11 at *
  obtain ⟨b10, Hb10⟩ : ∃ b, Hid (V9.heap.size = b) := ⟨_, rfl⟩
  have ne_b7_b10 : Hid (b7 ≠ b10) := by show _ ≠ _; rw [← Hb10.out]; exact Nat.ne_of_lt lt_b7
  have ne_g5_b10 : Hid (g5 ≠ b10) := by show _ ≠ _; rw [← Hb10.out]; exact Nat.ne_of_lt lt_g5
  have ne_g4_b10 : Hid (g4 ≠ b10) := by show _ ≠ _; rw [← Hb10.out]; exact Nat.ne_of_lt lt_g4
  have ne_g3_b10 : Hid (g3 ≠ b10) := by show _ ≠ _; rw [← Hb10.out]; exact Nat.ne_of_lt lt_g3
  have ne_bR_b10 : Hid (bR ≠ b10) := by show _ ≠ _; rw [← Hb10.out]; exact Nat.ne_of_lt lt_bR
  have ne_bP_b10 : Hid (bP ≠ b10) := by show _ ≠ _; rw [← Hb10.out]; exact Nat.ne_of_lt lt_bP
  have le_b10 : Hid (w.heap.size ≤ b10) := by show _ ≤ _; rw [← Hb10.out]; exact le_b10.out
  rw [Hb10.out] at hK ⊢
  clear lt_b7 lt_g5 lt_g4 lt_g3 lt_bR lt_bP
  have hK : Kp [(b10, B32 (bdig ov), 22), (b7, B32 (bdig xy), 22), (g5, B32 (bdig zz), 22), (g4, B32 (bdig yy), 22), (g3, B32 (bdig xx), 22), (bR, QA ⟨0, 0, 0⟩, 74)] w V11 := ((((((hK.none.cons (hK.at bR (QA ⟨0, 0, 0⟩) 74 (.tail _ (.tail _ (.tail _ (.tail _ (.tail _ (.head _)))))))).cons (hK.at g3 (B32 (bdig xx)) 22 (.tail _ (.tail _ (.tail _ (.tail _ (.head _))))))).cons (hK.at g4 (B32 (bdig yy)) 22 (.tail _ (.tail _ (.tail _ (.head _)))))).cons (hK.at g5 (B32 (bdig zz)) 22 (.tail _ (.tail _ (.head _))))).cons (hK.at b7 (B32 (bdig xy)) 22 (.tail _ (.head _)))).cons (hK.at b10 (B32 (bdig ov)) 22 (.head _)))
  refine wp_region_lv 51 (fun _ => [(b10, B32 (bdig ov), 22), (b7, B32 (bdig xy), 22), (g5, B32 (bdig zz), 22), (g4, B32 (bdig yy), 22), (g3, B32 (bdig xx), 22), (bR, QA ⟨0, 0, 0⟩, 74)]) [.v (.agg (B32 (bdig zz))), .v (.agg (B32 (bdig zz))), .v (.agg (B32 (bdig z2))), .v (.agg (B32 (bdig ov))), .v (.agg (B32 (bdig un))), .mk (B32 fun _ => 0) (B32 (bdig un)) 22 6, .o] hK (by kernel_rfl) (by kernel_rfl) (by kernel_rfl) (by rfl) ?_ ?_
  · exact .c (.ld g5 (fun _ => .tail _ (.tail _ (.head _))) Tryz.underlying22 rfl (B32_info _)) <| .c (.ld g5 (fun _ => .tail _ (.tail _ (.head _))) Tryz.underlying22 rfl (B32_info _)) <| .c (.ca fun _ _ hkx => cadd hzz.out hzz.out Hz2.out _ (TC.keep hT hkx.2)) <| .c (.ld b10 (fun _ => .head _) Tryz.underlying22 rfl (B32_info _)) <| .c (.ca fun _ _ hkx => csub hz2.out hov.out Hun.out _ (TC.keep hT hkx.2)) <| .c (.al hz) <| .c (.st 5 (B32_info _) (B32_one _)) .nil
  intro vs V12 hJ hf
  obtain ⟨g13, hgg13⟩ := hf 5 _ _ rfl rfl
  obtain ⟨le0, apg13, owng13⟩ := hJ.got 5 hgg13
  have le_g13 := show Hid _ from le0
  clear le0
  have ne_bR_g13 : Hid (bR ≠ g13) := apg13 (bR, QA ⟨0, 0, 0⟩, 74) (.tail _ (.tail _ (.tail _ (.tail _ (.tail _ (.head _))))))
  have hK : Kp [(g13, B32 (bdig un), 22), (b10, B32 (bdig ov), 22), (b7, B32 (bdig xy), 22), (g5, B32 (bdig zz), 22), (g4, B32 (bdig yy), 22), (g3, B32 (bdig xx), 22), (bR, QA ⟨0, 0, 0⟩, 74)] w V12 := (hJ.1.cons owng13)
  simp only [putL, Lv.val, Nat.zero_add, Nat.reduceAdd, hgg13, Act.put, List.setIfInBounds_toArray, List.set_cons_succ, List.set_cons_zero]
  clear hJ hf hgg13 apg13 owng13
  go_upto_region 5 with fail
  refine wp_region_lv 51 (fun L => [(g13, B32 (bdig un), 22), (b10, B32 (bdig ov), 22), (b7, B32 (bdig xy), 22), (g5, B32 (bdig zz), 22), (g4, B32 (bdig yy), 22), (g3, B32 (bdig xx), 22), (bR, if L 14 = true then QA ⟨X, Y, Z⟩ else QA ⟨0, 0, 0⟩, 74)]) [.v (.agg (B32 (bdig xy))), .v (.agg (B32 (bdig xy))), .v (.agg (B32 (bdig x2))), .v (.agg (B32 (bdig un))), .v (.agg (B32 (bdig X))), .v (.agg (B32 (bdig yy))), .v (.agg (B32 (bdig xx))), .v (.agg (B32 (bdig yx))), .v (.agg (B32 (bdig ov))), .v (.agg (B32 (bdig Y))), .v (.agg (B32 (bdig ov))), .v (.agg (B32 (bdig un))), .v (.agg (B32 (bdig Z))), .v (.agg (QA ⟨X, Y, Z⟩)), .o] hK (by kernel_rfl) (by kernel_rfl) (by kernel_rfl) (by rfl) ?_ ?_
  · exact .c (.ld b7 (fun _ => .tail _ (.tail _ (.head _))) Tryz.underlying22 rfl (B32_info _)) <| .c (.ld b7 (fun _ => .tail _ (.tail _ (.head _))) Tryz.underlying22 rfl (B32_info _)) <| .c (.ca fun _ _ hkx => cadd hxy.out hxy.out Hx2.out _ (TC.keep hT hkx.2)) <| .c (.ld g13 (fun _ => .head _) Tryz.underlying22 rfl (B32_info _)) <| .c (.ca fun _ _ hkx => cmul hx2.out hun.out HX.out _ (TC.keep hT hkx.2)) <| .c (.ld g4 (fun _ => .tail _ (.tail _ (.tail _ (.tail _ (.head _))))) Tryz.underlying22 rfl (B32_info _)) <| .c (.ld g3 (fun _ => .tail _ (.tail _ (.tail _ (.tail _ (.tail _ (.head _)))))) Tryz.underlying22 rfl (B32_info _)) <| .c (.ca fun _ _ hkx => cadd hyy.out hxx.out Hyx.out _ (TC.keep hT hkx.2)) <| .c (.ld b10 (fun _ => .tail _ (.head _)) Tryz.underlying22 rfl (B32_info _)) <| .c (.ca fun _ _ hkx => cmul hyx.out hov.out HY.out _ (TC.keep hT hkx.2)) <| .c (.ld b10 (fun _ => .tail _ (.head _)) Tryz.underlying22 rfl (B32_info _)) <| .c (.ld g13 (fun _ => .head _) Tryz.underlying22 rfl (B32_info _)) <| .c (.ca fun _ _ hkx => cmul hov.out hun.out HZ.out _ (TC.keep hT hkx.2)) <| .c (.x [(41, .agg (B32 (bdig X))), (46, .agg (B32 (bdig Y))), (49, .agg (B32 (bdig Z)))] fun _ _ _ _ _ hfx hkx hx => wp_build_q 41 46 49 (X) (Y) (Z) rfl (hfx _ (.head _)) (hfx _ (.tail _ (.head _))) (hfx _ (.tail _ (.tail _ (.head _)))) (hx _ _ rfl (Below.refl _ _))) <| .c (.sk bR (.nx (fun _ => rfl) (fun _ => rfl) (fun _ => Ne.symm ne_bR_g13.out) <| .nx (fun _ => rfl) (fun _ => rfl) (fun _ => Ne.symm ne_bR_b10.out) <| .nx (fun _ => rfl) (fun _ => rfl) (fun _ => Ne.symm ne_bR_b7.out) <| .nx (fun _ => rfl) (fun _ => rfl) (fun _ => Ne.symm ne_bR_g5.out) <| .nx (fun _ => rfl) (fun _ => rfl) (fun _ => Ne.symm ne_bR_g4.out) <| .nx (fun _ => rfl) (fun _ => rfl) (fun _ => Ne.symm ne_bR_g3.out) <| .hr (fun _ => rfl) (fun _ => rfl) (fun _ => fn)) le_bR.out (QA_info _) (QA_one _)) .nil
  intro _ V14 hJ _
  have hK : Kp [(g13, B32 (bdig un), 22), (b10, B32 (bdig ov), 22), (b7, B32 (bdig xy), 22), (g5, B32 (bdig zz), 22), (g4, B32 (bdig yy), 22), (g3, B32 (bdig xx), 22), (bR, QA ⟨X, Y, Z⟩, 74)] w V14 := hJ.1
  clear hJ
  simp only [putL, Lv.val, Act.put, List.setIfInBounds_toArray, List.set_cons_succ, List.set_cons_zero]
  go_wp2_with fail
  exact bodyPost_ret (results_own Tryz.results113 _ _ bR (QA ⟨X, Y, Z⟩) _ (by rfl) (hK.at bR (QA ⟨X, Y, Z⟩) 74 (.tail _ (.tail _ (.tail _ (.tail _ (.tail _ (.tail _ (.head _)))))))) Tryz.underlying74 rfl (QA_info _)) rfl ⟨rfl, hK.2⟩
theorem double_at {P : Pt E5} {p s : N3} (hp : Ok3 P p) (hs : dbl3 p = s) (w : World) (hT : TC w) : Calls Tryz.prog 113 #[.agg (QA p)] w fun x w' => x = .returned (.agg (QA s)) ∧ Below w.heap.size w w' := by
  subst hs
  exact double_nat hp.lX hp.lY hp.lZ w hT
theorem rootBo_is (o : Option Nat) : ∃ x b, rootBo o = .tuple #[.agg (B32 (bdig x)), .bool b] := by
  cases o with
  | none => exact ⟨0, false, rfl⟩
  | some z => exact ⟨z, true, rfl⟩
theorem usq_swap {y yy s e g v q : Nat} (Hyy : y * y % pp = yy) (Hs : subp yy 1 = s) (He : dd * yy % pp = e) (Hg : (1 + e) % pp = g) (Hv : finv g = v) (Hq : s * v % pp = q) : usq y = q := by
  rw [← Hq, ← Hs, ← Hv, ← Hg, ← He, ← Hyy]
  unfold usq
  rw [Nat.add_comm 1]
set_option maxRecDepth 100000 in
set_option maxHeartbeats 6000000 in
theorem beside_nat {y : Nat} (hy : Hid (y < R256)) (w : World) (hT : TC w) : Calls Tryz.prog 97 #[.agg (B32 (bdig y))] w fun r w' => r = .returned (rootBo (froot (usq y))) ∧ Below w.heap.size w w' := by
  have hz := (zero_of_info zeroB32).1
  obtain ⟨yy, Hyy⟩ : ∃ z, Hid (y * y % pp = z) := ⟨_, rfl⟩
  have hyy : Hid (yy < R256) := by show _ < _; rw [← Hyy.out]; exact lt_of_mod
  obtain ⟨s, Hs⟩ : ∃ z, Hid (subp yy 1 = z) := ⟨_, rfl⟩
  have hs : Hid (s < R256) := by show _ < _; rw [← Hs.out]; exact subp_R _ _
  obtain ⟨e, He⟩ : ∃ z, Hid (dd * yy % pp = z) := ⟨_, rfl⟩
  have he : Hid (e < R256) := by show _ < _; rw [← He.out]; exact lt_of_mod
  obtain ⟨g, Hg⟩ : ∃ z, Hid ((1 + e) % pp = z) := ⟨_, rfl⟩
  have hg : Hid (g < R256) := by show _ < _; rw [← Hg.out]; exact lt_of_mod
  obtain ⟨v, Hv⟩ : ∃ z, Hid (finv g = z) := ⟨_, rfl⟩
  have hv : Hid (v < R256) := by show _ < _; rw [← Hv.out]; exact finv_lR _
  obtain ⟨q, Hq⟩ : ∃ z, Hid (s * v % pp = z) := ⟨_, rfl⟩
  have hq : Hid (q < R256) := by show _ < _; rw [← Hq.out]; exact lt_of_mod
  rw [usq_swap Hyy.out Hs.out He.out Hg.out Hv.out Hq.out]
  obtain ⟨x, b, hro⟩ := rootBo_is (froot q)
  have Hro := show Hid _ from hro
  rw [hro]
  clear hro
  go_enter Tryz.func97, Tryz.ntmps97
  go_upto_region 1 with fail
  have hK := ((Kp.nil w).alloc (B32 (bdig y)) 22).alloc (B32 fun _ => 0) 22
  rw [World.size_alloc] at hK
  generalize (w.alloc (.cells (B32 (bdig y)) 22)).alloc (.cells (B32 fun _ => 0) 22) = W at *
  obtain ⟨bY, HbY⟩ : ∃ b, Hid (w.heap.size = b) := ⟨_, rfl⟩
  obtain ⟨bR, HbR⟩ : ∃ b, Hid (bY + 1 = b) := ⟨_, rfl⟩
  have le_bY : Hid (w.heap.size ≤ bY) := by show _ ≤ _; have := HbY.out; omega
  have le_bR : Hid (w.heap.size ≤ bR) := by show _ ≤ _; have := HbY.out; have := HbR.out; omega
  have ne_bY_bR : Hid (bY ≠ bR) := by show _ ≠ _; have := HbR.out; omega
  rw [HbY.out, HbR.out] at hK ⊢
  go_upto_region 2 with (first
    | refine wpList_build_one (by rfl) (by rfl) ?_
    | refine wpList_store_new (by rfl) 22 (.tmp 4) (.tmp 6) (by rfl) _ (B32 (bdig 1)) (by rfl) (by rfl) (B32_info _) (B32_sizes _ _) (B32_one _) (by rfl) ?_)
  have lt_bR := (hK.at bR (B32 fun _ => 0) 22 (.head _)).lt
  have lt_bY := (hK.at bY (B32 (bdig y)) 22 (.tail _ (.head _))).lt
  have le_b1 := show Hid _ from hK.2.size
  have hK := hK.alloc (B32 (bdig 1)) 22
  generalize W.alloc (.cells (B32 (bdig 1)) 22) = V2 at *
  obtain ⟨b1, Hb1⟩ : ∃ b, Hid (W.heap.size = b) := ⟨_, rfl⟩
  have ne_bR_b1 : Hid (bR ≠ b1) := by show _ ≠ _; rw [← Hb1.out]; exact Nat.ne_of_lt lt_bR
  have ne_bY_b1 : Hid (bY ≠ b1) := by show _ ≠ _; rw [← Hb1.out]; exact Nat.ne_of_lt lt_bY
  have le_b1 : Hid (w.heap.size ≤ b1) := by show _ ≤ _; rw [← Hb1.out]; exact le_b1.out
  rw [Hb1.out] at hK ⊢
  clear lt_bR lt_bY
  go_wp2_with (first
    | refine wpList_load_own (by rfl) 22 (.tmp 1) (by rfl) bY (by rfl) (B32 (bdig y)) _ (hK.at bY (B32 (bdig y)) 22 (.tail _ (.tail _ (.head _)))) Tryz.underlying22 (by rfl) (B32_info _) ?_
    | refine wpList_load_own (by rfl) 22 (.tmp 1) (by rfl) bY (by rfl) (B32 (bdig y)) _ (hK.at bY (B32 (bdig y)) 22 (.tail _ (.tail _ (.head _)))) Tryz.underlying22 (by rfl) (B32_info _) ?_)
  refine (cmul hy.out hy.out Hyy.out _ (TC.keep hT hK.2)).mono ?_
  rintro e V3 ⟨rfl, bw⟩
  have hK := hK.below bw
  clear bw
  go_upto_region 3 with (refine wpList_store_new (by rfl) 22 (.tmp 5) (.tmp 9) (by rfl) _ (B32 (bdig yy)) (by rfl) (by rfl) (B32_info _) (B32_sizes _ _) (B32_one _) (by rfl) ?_)
  have lt_b1 := (hK.at b1 (B32 (bdig 1)) 22 (.head _)).lt
  have lt_bR := (hK.at bR (B32 fun _ => 0) 22 (.tail _ (.head _))).lt
  have lt_bY := (hK.at bY (B32 (bdig y)) 22 (.tail _ (.tail _ (.head _)))).lt
  have le_b4 := show Hid _ from hK.2.size
  have hK := hK.alloc (B32 (bdig yy)) 22
  generalize V3.alloc (.cells (B32 (bdig yy)) 22) = V5 at *
  obtain ⟨b4, Hb4⟩ : ∃ b, Hid (V3.heap.size = b) := ⟨_, rfl⟩
  have ne_b1_b4 : Hid (b1 ≠ b4) := by show _ ≠ _; rw [← Hb4.out]; exact Nat.ne_of_lt lt_b1
  have ne_bR_b4 : Hid (bR ≠ b4) := by show _ ≠ _; rw [← Hb4.out]; exact Nat.ne_of_lt lt_bR
  have ne_bY_b4 : Hid (bY ≠ b4) := by show _ ≠ _; rw [← Hb4.out]; exact Nat.ne_of_lt lt_bY
  have le_b4 : Hid (w.heap.size ≤ b4) := by show _ ≤ _; rw [← Hb4.out]; exact le_b4.out
  rw [Hb4.out] at hK ⊢
  clear lt_b1 lt_bR lt_bY
  refine wp_region_lv 23 (fun L => [(b4, B32 (bdig yy), 22), (b1, B32 (bdig 1), 22), (bR, if L 13 = true then B32 (bdig x) else B32 fun _ => 0, 22), (bY, B32 (bdig y), 22)]) [.v (.agg (B32 (bdig yy))), .v (.agg (B32 (bdig 1))), .v (.agg (B32 (bdig s))), .v (.agg (B32 (bdig 1))), .v (.agg (B32 (bdig dd))), .v (.agg (B32 (bdig yy))), .v (.agg (B32 (bdig e))), .v (.agg (B32 (bdig g))), .v (.agg (B32 (bdig v))), .v (.agg (B32 (bdig q))), .v (.tuple #[.agg (B32 (bdig x)), .bool b]), .v (.agg (B32 (bdig x))), .v (.bool b), .o, .v (.bool b)] hK (by kernel_rfl) (by kernel_rfl) (by kernel_rfl) (by rfl) ?_ ?_
  · exact .c (.ld b4 (fun _ => .head _) Tryz.underlying22 rfl (B32_info _)) <| .c (.ld b1 (fun _ => .tail _ (.head _)) Tryz.underlying22 rfl (B32_info _)) <| .c (.ca fun _ _ hkx => csub hyy.out one_R Hs.out _ (TC.keep hT hkx.2)) <| .c (.ld b1 (fun _ => .tail _ (.head _)) Tryz.underlying22 rfl (B32_info _)) <| .c (.x [] fun _ _ _ _ _ hfx hkx hx => wp_load_d rfl (TC.keep hT hkx.2) (hx _ _ rfl (Below.refl _ _))) <| .c (.ld b4 (fun _ => .head _) Tryz.underlying22 rfl (B32_info _)) <| .c (.ca fun _ _ hkx => cmul ddR hyy.out He.out _ (TC.keep hT hkx.2)) <| .c (.ca fun _ _ hkx => cadd one_R he.out Hg.out _ (TC.keep hT hkx.2)) <| .c (.ca fun _ _ hkx => cinv hg.out Hv.out _ (TC.keep hT hkx.2)) <| .c (.ca fun _ _ hkx => cmul hs.out hv.out Hq.out _ (TC.keep hT hkx.2)) <| .c (.ca fun _ _ hkx => croot hq.out Hro.out _ (TC.keep hT hkx.2)) <| .c (.p1 20 (.tuple #[.agg (B32 (bdig x)), .bool b])) <| .c (.p1 20 (.tuple #[.agg (B32 (bdig x)), .bool b])) <| .c (.sk bR (.nx (fun _ => rfl) (fun _ => rfl) (fun _ => Ne.symm ne_bR_b4.out) <| .nx (fun _ => rfl) (fun _ => rfl) (fun _ => Ne.symm ne_bR_b1.out) <| .hr (fun _ => rfl) (fun _ => rfl) (fun _ => fc ne_bY_bR <| fn)) le_bR.out (B32_info _) (B32_one _)) <| .c (.p1 22 (.bool b)) .nil
  intro _ V6 hJ _
  have hK : Kp [(b4, B32 (bdig yy), 22), (b1, B32 (bdig 1), 22), (bR, B32 (bdig x), 22), (bY, B32 (bdig y), 22)] w V6 := hJ.1
  clear hJ
  simp only [putL, Lv.val, Act.put, List.setIfInBounds_toArray, List.set_cons_succ, List.set_cons_zero]
  go_wp2_with fail
  exact bodyPost_ret (results_own_tmp Tryz.results97 _ _ bR (B32 (bdig x)) _ (by rfl) (hK.at bR (B32 (bdig x)) 22 (.tail _ (.tail _ (.head _)))) Tryz.underlying22 rfl (B32_info _)) rfl ⟨rfl, hK.2⟩
theorem beside_at {y : Nat} {v : Value} (hy : Hid (y < R256)) (hv : rootBo (froot (usq y)) = v) (w : World) (hT : TC w) : Calls Tryz.prog 97 #[.agg (B32 (bdig y))] w fun r w' => r = .returned v ∧ Below w.heap.size w w' := by
  rw [← hv]; exact beside_nat hy w hT
end Go.Proofs.YtgibllaifnnfkaaGreatDoor
