/- Of the texts G4, G2: what the card of this claim reaches. -/
import Derived.Test.YtgibllaifnnfkaaGreatDoorXE12
import Derived.Test.YtgibllaifnnfkaaGreatDoorXE4
namespace Go.Proofs.YtgibllaifnnfkaaGreatDoor
open Go Go.RowKit
theorem bdig_odd (x : Nat) : bdig x 0 % 2 = x % 2 := by
  unfold bdig
  rw [Nat.pow_zero, Nat.div_one]
  omega
theorem and1_u8 (x : Nat) : bits .and .u8 (bdig x 0 : Int) 1 = ((x % 2 : Nat) : Int) := by
  have h := u8_and_nat (bdig x 0) 1 (bdig_lt _ _) (by decide)
  rw [Nat.and_one_is_mod, bdig_odd] at h
  exact h
set_option maxRecDepth 100000 in
set_option maxHeartbeats 4000000 in
theorem write_nat {X Y Z : Nat} (hX : Hid (X < R256)) (hY : Hid (Y < R256)) (hZ : Hid (Z < R256)) (w : World) (hT : TC w) : Calls Tryz.prog 48 #[.agg (QA ⟨X, Y, Z⟩)] w fun e w' => e = .returned (.agg (B32 (bdig (Y * finv Z % pp + HH * (X * finv Z % pp % 2))))) ∧ Below w.heap.size w w' := by
  have hz := (zero_of_info zeroB32).1
  obtain ⟨zi, Hzi⟩ : ∃ x, Hid (finv Z = x) := ⟨_, rfl⟩
  have hzi : Hid (zi < R256) := by show _ < _; rw [← Hzi.out]; exact finv_lR _
  rw [Hzi.out]
  obtain ⟨x, Hx⟩ : ∃ x, Hid (X * zi % pp = x) := ⟨_, rfl⟩
  obtain ⟨y, Hy⟩ : ∃ x, Hid (Y * zi % pp = x) := ⟨_, rfl⟩
  have hyH : Hid (y < HH) := by show _ < _; rw [← Hy.out]; exact Nat.lt_trans (Nat.mod_lt _ pp_pos) pp_HH
  rw [Hx.out, Hy.out]
  go_enter Tryz.func48, Tryz.ntmps48
  go_upto_region 1 with fail
  have hK := ((Kp.nil w).alloc (QA ⟨X, Y, Z⟩) 74).alloc (B32 fun _ => 0) 22
  rw [World.size_alloc] at hK
  generalize (w.alloc (.cells (QA ⟨X, Y, Z⟩) 74)).alloc (.cells (B32 fun _ => 0) 22) = W at *
  obtain ⟨bP, HbP⟩ : ∃ b, Hid (w.heap.size = b) := ⟨_, rfl⟩
  obtain ⟨bR, HbR⟩ : ∃ b, Hid (bP + 1 = b) := ⟨_, rfl⟩
  have le_bP : Hid (w.heap.size ≤ bP) := by show _ ≤ _; have := HbP.out; omega
  have le_bR : Hid (w.heap.size ≤ bR) := by show _ ≤ _; have := HbP.out; have := HbR.out; omega
  have ne_bP_bR : Hid (bP ≠ bR) := by show _ ≠ _; have := HbR.out; omega
  rw [HbP.out, HbR.out] at hK ⊢
  go_wp2_with (refine wpList_load_prt (by rfl) 2 (by decide) (.tmp 6) (by rfl) bP (by rfl) (hK.at bP (QA ⟨X, Y, Z⟩) 74 (.tail _ (.head _))) ?_)
  refine (cinv hZ.out Hzi.out _ (TC.keep hT hK.2)).mono ?_
  rintro e V1 ⟨rfl, bw⟩
  have hK := hK.below bw
  clear bw
  go_upto_region 2 with (refine wpList_store_new (by rfl) 22 (.tmp 3) (.tmp 8) (by rfl) _ (B32 (bdig zi)) (by rfl) (by rfl) (B32_info _) (B32_sizes _ _) (B32_one _) (by rfl) ?_)
  have lt_bR := (hK.at bR (B32 fun _ => 0) 22 (.head _)).lt
  have lt_bP := (hK.at bP (QA ⟨X, Y, Z⟩) 74 (.tail _ (.head _))).lt
  have le_b2 := show Hid _ from hK.2.size
  have hK := hK.alloc (B32 (bdig zi)) 22
  generalize V1.alloc (.cells (B32 (bdig zi)) 22) = V3 at *
  obtain ⟨b2, Hb2⟩ : ∃ b, Hid (V1.heap.size = b) := ⟨_, rfl⟩
  have ne_bR_b2 : Hid (bR ≠ b2) := by show _ ≠ _; rw [← Hb2.out]; exact Nat.ne_of_lt lt_bR
  have ne_bP_b2 : Hid (bP ≠ b2) := by show _ ≠ _; rw [← Hb2.out]; exact Nat.ne_of_lt lt_bP
  have le_b2 : Hid (w.heap.size ≤ b2) := by show _ ≤ _; rw [← Hb2.out]; exact le_b2.out
  rw [Hb2.out] at hK ⊢
  clear lt_bR lt_bP
  refine wp_region_lv 26 (fun _ => [(b2, B32 (bdig zi), 22), (bR, B32 fun _ => 0, 22), (bP, QA ⟨X, Y, Z⟩, 74)]) [.v (.pointer (some ⟨bP, 0, none⟩)), .v (.agg (B32 (bdig X))), .v (.agg (B32 (bdig zi))), .v (.agg (B32 (bdig x))), .v (.pointer (some ⟨bP, 32, none⟩)), .v (.agg (B32 (bdig Y))), .v (.agg (B32 (bdig zi))), .v (.agg (B32 (bdig y))), .mk (B32 fun _ => 0) (B32 (bdig x)) 22 10, .mk (B32 fun _ => 0) (B32 (bdig y)) 22 11, .o, .o] hK (by kernel_rfl) (by kernel_rfl) (by kernel_rfl) (by rfl) ?_ ?_
  · exact .c (.p1 1 (.pointer (some ⟨bP, 0, none⟩))) <| .c (.x [(9, .pointer (some ⟨bP, 0, none⟩))] fun _ _ _ _ _ hfx hkx hx => wp_load_prt 0 (by decide) (.tmp 9) rfl bP (hfx _ (.head _)) (hkx.at bP (QA ⟨X, Y, Z⟩) 74 (.tail _ (.tail _ (.head _)))) (hx _ _ rfl (Below.refl _ _))) <| .c (.ld b2 (fun _ => .head _) Tryz.underlying22 rfl (B32_info _)) <| .c (.ca fun _ _ hkx => cmul hX.out hzi.out Hx.out _ (TC.keep hT hkx.2)) <| .c (.p1 1 (.pointer (some ⟨bP, 0, none⟩))) <| .c (.x [(13, .pointer (some ⟨bP, 32, none⟩))] fun _ _ _ _ _ hfx hkx hx => wp_load_prt 1 (by decide) (.tmp 13) rfl bP (hfx _ (.head _)) (hkx.at bP (QA ⟨X, Y, Z⟩) 74 (.tail _ (.tail _ (.head _)))) (hx _ _ rfl (Below.refl _ _))) <| .c (.ld b2 (fun _ => .head _) Tryz.underlying22 rfl (B32_info _)) <| .c (.ca fun _ _ hkx => cmul hY.out hzi.out Hy.out _ (TC.keep hT hkx.2)) <| .c (.al hz) <| .c (.al hz) <| .c (.st 8 (B32_info _) (B32_one _)) <| .c (.st 9 (B32_info _) (B32_one _)) .nil
  intro vs V5 hJ hf
  obtain ⟨g6, hgg6⟩ := hf 8 _ _ rfl rfl
  obtain ⟨le0, apg6, owng6⟩ := hJ.got 8 hgg6
  have le_g6 := show Hid _ from le0
  clear le0
  obtain ⟨g7, hgg7⟩ := hf 9 _ _ rfl rfl
  obtain ⟨le0, apg7, owng7⟩ := hJ.got 9 hgg7
  have le_g7 := show Hid _ from le0
  clear le0
  have ne_g6_g7 := hJ.apart 8 9 hgg6 hgg7
  have ne_bR_g6 : Hid (bR ≠ g6) := apg6 (bR, B32 fun _ => 0, 22) (.tail _ (.head _))
  have ne_bR_g7 : Hid (bR ≠ g7) := apg7 (bR, B32 fun _ => 0, 22) (.tail _ (.head _))
  have hK : Kp [(g7, B32 (bdig y), 22), (g6, B32 (bdig x), 22), (b2, B32 (bdig zi), 22), (bR, B32 fun _ => 0, 22), (bP, QA ⟨X, Y, Z⟩, 74)] w V5 := ((hJ.1.cons owng6).cons owng7)
  simp only [putL, Lv.val, Nat.zero_add, Nat.reduceAdd, hgg6, hgg7, Act.put, List.setIfInBounds_toArray, List.set_cons_succ, List.set_cons_zero]
  clear hJ hf hgg6 hgg7 apg6 apg7 owng6 owng7
  go_upto_region 3 with fail
  have hK : Kp [(g7, B32 (bdig y), 22), (g6, B32 (bdig x), 22), (bR, B32 fun _ => 0, 22)] w V5 := (((hK.none.cons (hK.at bR (B32 fun _ => 0) 22 (.tail _ (.tail _ (.tail _ (.head _)))))).cons (hK.at g6 (B32 (bdig x)) 22 (.tail _ (.head _)))).cons (hK.at g7 (B32 (bdig y)) 22 (.head _)))
  have cX := (hK.at g6 (B32 (bdig x)) 22 (.tail _ (.head _))).cell (B32_at (bdig x) 0 (by decide))
  have hand := and1_u8 x
  generalize bdig x 0 = x0 at *
  have hb2 : x % 2 = 0 ∨ x % 2 = 1 := by omega
  rcases hb2 with hb | hb
  · have He : Hid (y + HH * (x % 2) = y) := by show _ = _; rw [hb, Nat.mul_zero, Nat.add_zero]
    rw [hb] at hand
    clear hb
    go_upto_region 5 with fail
    go_wp2_with (first
      | refine wpList_load_own (by rfl) 22 (.tmp 5) (by rfl) g7 (by rfl) (B32 (bdig y)) _ (hK.at g7 (B32 (bdig y)) 22 (.head _)) Tryz.underlying22 (by rfl) (B32_info _) ?_
      | refine wpList_store_own (by rfl) 22 (.tmp 2) (.tmp 25) (by rfl) bR 0 (B32 (bdig y)) (by rfl) (by rfl) (hK.at bR (B32 fun _ => 0) 22 (.tail _ (.tail _ (.head _)))) (B32_le _ _) (B32_info _) (B32_one _) (by rfl) ?_)
    exact bodyPost_ret (results_own Tryz.results48 _ _ bR (B32 (bdig y)) _ (by rfl) (own_setCells (hK.at bR (B32 fun _ => 0) 22 (.tail _ (.tail _ (.head _)))) (B32_sizes _ _)) Tryz.underlying22 rfl (B32_info _)) rfl ⟨by rw [He.out], Below.setCells _ _ _ _ le_bR.out hK.2⟩
  · have He : Hid (y + HH * (x % 2) = y + HH) := by show _ = _; rw [hb, Nat.mul_one]
    rw [hb] at hand
    clear hb
    go_upto_region 4 with fail
    clear cX hand
    have cB := (hK.at g7 (B32 (bdig y)) 22 (.head _)).cell (B32_at (bdig y) 31 (by decide))
    have fB := (hK.at g7 (B32 (bdig y)) 22 (.head _)).frozen 31
    have hor := or_top hyH.out
    obtain ⟨u, Hu⟩ : ∃ u, Hid (bdig y 31 + 128 = u) := ⟨_, rfl⟩
    rw [Hu.out] at hor
    have hK := Kp.setCell (i := 31) (v := .int .u8 (u : Int)) hK (by simp only [List.forall_mem_cons, List.not_mem_nil, false_implies, implies_true, and_true]; exact ⟨ne_g6_g7.out, ne_bR_g7.out⟩) le_g7.out
    rw [B32_set _ 31 _ (by decide), ← Hu.out, B32_top hyH.out, Hu.out] at hK
    generalize bdig y 31 = d31 at *
    go_upto_region 5 with fail
    generalize V5.setCell ⟨g7, 31, none⟩ (.int .u8 (u : Int)) = VV at *
    go_wp2_with (first
      | refine wpList_load_own (by rfl) 22 (.tmp 5) (by rfl) g7 (by rfl) (B32 (bdig (y + HH))) _ (hK.at g7 (B32 (bdig (y + HH))) 22 (.head _)) Tryz.underlying22 (by rfl) (B32_info _) ?_
      | refine wpList_store_own (by rfl) 22 (.tmp 2) (.tmp 25) (by rfl) bR 0 (B32 (bdig (y + HH))) (by rfl) (by rfl) (hK.at bR (B32 fun _ => 0) 22 (.tail _ (.tail _ (.head _)))) (B32_le _ _) (B32_info _) (B32_one _) (by rfl) ?_)
    exact bodyPost_ret (results_own Tryz.results48 _ _ bR (B32 (bdig (y + HH))) _ (by rfl) (own_setCells (hK.at bR (B32 fun _ => 0) 22 (.tail _ (.tail _ (.head _)))) (B32_sizes _ _)) Tryz.underlying22 rfl (B32_info _)) rfl ⟨by rw [He.out], Below.setCells _ _ _ _ le_bR.out hK.2⟩
theorem write_at {P : Pt E5} {r : N3} {c : Nat} (hr : Ok3 P r) (hc : enc P = c) (w : World) (hT : TC w) : Calls Tryz.prog 48 #[.agg (QA r)] w fun e w' => e = .returned (.agg (B32 (bdig c))) ∧ Below w.heap.size w w' := by
  subst hc
  rw [← hr.enc]
  exact write_nat hr.lX hr.lY hr.lZ w hT
end Go.Proofs.YtgibllaifnnfkaaGreatDoor
namespace Go.Proofs.YtgibllaifnnfkaaGreatDoor
open Go Go.RowKit
set_option maxRecDepth 100000 in
set_option maxHeartbeats 6000000 in
theorem opposite_at {a c : Nat} (ha : Hid (a < R256)) (Hc : Hid (subp 0 a = c)) (w : World) (hT : TC w) : Calls Tryz.prog 98 #[.agg (B32 (bdig a))] w fun x w' => x = .returned (.agg (B32 (bdig c))) ∧ Below w.heap.size w w' := by
  have hz := (zero_of_info zeroB32).1
  go_enter Tryz.func98, Tryz.ntmps98
  go_upto_region 1 with fail
  have hK := ((Kp.nil w).alloc (B32 (bdig a)) 22).alloc (B32 fun _ => 0) 22
  rw [World.size_alloc] at hK
  generalize (w.alloc (.cells (B32 (bdig a)) 22)).alloc (.cells (B32 fun _ => 0) 22) = W at *
  obtain ⟨bA, HbA⟩ : ∃ b, Hid (w.heap.size = b) := ⟨_, rfl⟩
  obtain ⟨bR, HbR⟩ : ∃ b, Hid (bA + 1 = b) := ⟨_, rfl⟩
  have le_bA : Hid (w.heap.size ≤ bA) := by show _ ≤ _; have := HbA.out; omega
  have le_bR : Hid (w.heap.size ≤ bR) := by show _ ≤ _; have := HbA.out; have := HbR.out; omega
  have ne_bA_bR : Hid (bA ≠ bR) := by show _ ≠ _; have := HbR.out; omega
  rw [HbA.out, HbR.out] at hK ⊢
  go_wp2_with (refine wpList_load_own (by rfl) 22 (.tmp 1) (by rfl) bA (by rfl) (B32 (bdig a)) _ (hK.at bA (B32 (bdig a)) 22 (.tail _ (.head _))) Tryz.underlying22 (by rfl) (B32_info _) ?_)
  refine (csub0 ha.out Hc.out _ (TC.keep hT hK.2)).mono ?_
  rintro e V1 ⟨rfl, bw⟩
  have hK := hK.below bw
  clear bw
  go_wp2_with (refine wpList_store_own (op := { dst := none, op := _, type := _, pos := _, after := _, guard := _ }) rfl 22 (.tmp 2) (.tmp 5) rfl bR 0 (B32 (bdig c)) (by rfl) (by rfl) (hK.at bR (B32 fun _ => 0) 22 (.head _)) (B32_le _ _) (B32_info _) (B32_one _) (by rfl) ?_)
  exact bodyPost_ret (results_own Tryz.results98 _ _ bR (B32 (bdig c)) _ (by rfl) (own_setCells (hK.at bR (B32 fun _ => 0) 22 (.head _)) (B32_sizes _ _)) Tryz.underlying22 rfl (B32_info _)) rfl ⟨rfl, Below.setCells _ _ _ _ le_bR.out hK.2⟩
set_option maxRecDepth 100000 in
set_option maxHeartbeats 6000000 in
theorem sum_nat {X1 Y1 Z1 X2 Y2 Z2 : Nat} (hX1 : Hid (X1 < R256)) (hY1 : Hid (Y1 < R256)) (hZ1 : Hid (Z1 < R256)) (hX2 : Hid (X2 < R256)) (hY2 : Hid (Y2 < R256)) (hZ2 : Hid (Z2 < R256)) (w : World) (hT : TC w) :
    Calls Tryz.prog 63 #[.agg (QA ⟨X1, Y1, Z1⟩), .agg (QA ⟨X2, Y2, Z2⟩)] w fun x w' => x = .returned (.agg (QA (sum3 ⟨X1, Y1, Z1⟩ ⟨X2, Y2, Z2⟩))) ∧ Below w.heap.size w w' := by
  have hz := (zero_of_info zeroB32).1
  have hzP := (zero_of_info zeroQA).1
  have hdd : Hid (dd < R256) := ddR
  obtain ⟨xx, Hxx⟩ : ∃ z, Hid (X1 * X2 % pp = z) := ⟨_, rfl⟩
  have hxx : Hid (xx < R256) := by show _ < _; rw [← Hxx.out]; exact lt_of_mod
  obtain ⟨yy, Hyy⟩ : ∃ z, Hid (Y1 * Y2 % pp = z) := ⟨_, rfl⟩
  have hyy : Hid (yy < R256) := by show _ < _; rw [← Hyy.out]; exact lt_of_mod
  obtain ⟨zz, Hzz⟩ : ∃ z, Hid (Z1 * Z2 % pp = z) := ⟨_, rfl⟩
  have hzz : Hid (zz < R256) := by show _ < _; rw [← Hzz.out]; exact lt_of_mod
  obtain ⟨m1, Hm1⟩ : ∃ z, Hid (X1 * Y2 % pp = z) := ⟨_, rfl⟩
  have hm1 : Hid (m1 < R256) := by show _ < _; rw [← Hm1.out]; exact lt_of_mod
  obtain ⟨m2, Hm2⟩ : ∃ z, Hid (Y1 * X2 % pp = z) := ⟨_, rfl⟩
  have hm2 : Hid (m2 < R256) := by show _ < _; rw [← Hm2.out]; exact lt_of_mod
  obtain ⟨cr, Hcr⟩ : ∃ z, Hid ((m1 + m2) % pp = z) := ⟨_, rfl⟩
  have hcr : Hid (cr < R256) := by show _ < _; rw [← Hcr.out]; exact lt_of_mod
  obtain ⟨oz, Hoz⟩ : ∃ z, Hid (zz * zz % pp = z) := ⟨_, rfl⟩
  have hoz : Hid (oz < R256) := by show _ < _; rw [← Hoz.out]; exact lt_of_mod
  obtain ⟨xy, Hxy⟩ : ∃ z, Hid (xx * yy % pp = z) := ⟨_, rfl⟩
  have hxy : Hid (xy < R256) := by show _ < _; rw [← Hxy.out]; exact lt_of_mod
  obtain ⟨kq, Hkq⟩ : ∃ z, Hid (dd * xy % pp = z) := ⟨_, rfl⟩
  have hkq : Hid (kq < R256) := by show _ < _; rw [← Hkq.out]; exact lt_of_mod
  obtain ⟨ov, Hov⟩ : ∃ z, Hid ((oz + kq) % pp = z) := ⟨_, rfl⟩
  have hov : Hid (ov < R256) := by show _ < _; rw [← Hov.out]; exact lt_of_mod
  obtain ⟨un, Hun⟩ : ∃ z, Hid (subp oz kq = z) := ⟨_, rfl⟩
  have hun : Hid (un < R256) := by show _ < _; rw [← Hun.out]; exact subp_R _ _
  obtain ⟨au, Hau⟩ : ∃ z, Hid (cr * un % pp = z) := ⟨_, rfl⟩
  have hau : Hid (au < R256) := by show _ < _; rw [← Hau.out]; exact lt_of_mod
  obtain ⟨X, HX⟩ : ∃ z, Hid (zz * au % pp = z) := ⟨_, rfl⟩
  have hX : Hid (X < R256) := by show _ < _; rw [← HX.out]; exact lt_of_mod
  obtain ⟨yx, Hyx⟩ : ∃ z, Hid ((yy + xx) % pp = z) := ⟨_, rfl⟩
  have hyx : Hid (yx < R256) := by show _ < _; rw [← Hyx.out]; exact lt_of_mod
  obtain ⟨yo, Hyo⟩ : ∃ z, Hid (yx * ov % pp = z) := ⟨_, rfl⟩
  have hyo : Hid (yo < R256) := by show _ < _; rw [← Hyo.out]; exact lt_of_mod
  obtain ⟨Y, HY⟩ : ∃ z, Hid (zz * yo % pp = z) := ⟨_, rfl⟩
  have hY : Hid (Y < R256) := by show _ < _; rw [← HY.out]; exact lt_of_mod
  obtain ⟨Z, HZ⟩ : ∃ z, Hid (ov * un % pp = z) := ⟨_, rfl⟩
  have hZ : Hid (Z < R256) := by show _ < _; rw [← HZ.out]; exact lt_of_mod
  have He3 : Hid (sum3 ⟨X1, Y1, Z1⟩ ⟨X2, Y2, Z2⟩ = ⟨X, Y, Z⟩) := by
    show _ = _
    rw [← HZ.out, ← HY.out, ← Hyo.out, ← Hyx.out, ← HX.out, ← Hau.out, ← Hun.out, ← Hov.out, ← Hkq.out, ← Hxy.out, ← Hoz.out, ← Hcr.out, ← Hm2.out, ← Hm1.out, ← Hzz.out, ← Hyy.out, ← Hxx.out]
    rfl
  rw [He3.out]
  go_enter Tryz.func63, Tryz.ntmps63
  go_upto_region 1 with fail
  have hK := (((Kp.nil w).alloc (QA ⟨X1, Y1, Z1⟩) 74).alloc (QA ⟨X2, Y2, Z2⟩) 74).alloc (QA ⟨0, 0, 0⟩) 74
  rw [World.size_alloc, World.size_alloc] at hK
  generalize ((w.alloc (.cells (QA ⟨X1, Y1, Z1⟩) 74)).alloc (.cells (QA ⟨X2, Y2, Z2⟩) 74)).alloc (.cells (QA ⟨0, 0, 0⟩) 74) = W at *
  obtain ⟨bP, HbP⟩ : ∃ b, Hid (w.heap.size = b) := ⟨_, rfl⟩
  obtain ⟨bQ, HbQ⟩ : ∃ b, Hid (bP + 1 = b) := ⟨_, rfl⟩
  obtain ⟨bR, HbR⟩ : ∃ b, Hid (bQ + 1 = b) := ⟨_, rfl⟩
  have le_bP : Hid (w.heap.size ≤ bP) := by show _ ≤ _; have := HbP.out; omega
  have le_bQ : Hid (w.heap.size ≤ bQ) := by show _ ≤ _; have := HbP.out; have := HbQ.out; omega
  have le_bR : Hid (w.heap.size ≤ bR) := by show _ ≤ _; have := HbP.out; have := HbQ.out; have := HbR.out; omega
  have ne_bP_bQ : Hid (bP ≠ bQ) := by show _ ≠ _; have := HbQ.out; omega
  have ne_bP_bR : Hid (bP ≠ bR) := by show _ ≠ _; have := HbQ.out; have := HbR.out; omega
  have ne_bQ_bR : Hid (bQ ≠ bR) := by show _ ≠ _; have := HbR.out; omega
  rw [HbP.out, HbQ.out, HbR.out] at hK ⊢
  refine wp_region_lv 69 (fun _ => [(bR, QA ⟨0, 0, 0⟩, 74), (bQ, QA ⟨X2, Y2, Z2⟩, 74), (bP, QA ⟨X1, Y1, Z1⟩, 74)]) [.v (.pointer (some ⟨bP, 0, none⟩)), .v (.agg (B32 (bdig X1))), .v (.pointer (some ⟨bQ, 0, none⟩)), .v (.agg (B32 (bdig X2))), .v (.agg (B32 (bdig xx))), .v (.pointer (some ⟨bP, 32, none⟩)), .v (.agg (B32 (bdig Y1))), .v (.pointer (some ⟨bQ, 32, none⟩)), .v (.agg (B32 (bdig Y2))), .v (.agg (B32 (bdig yy))), .v (.pointer (some ⟨bP, 64, none⟩)), .v (.agg (B32 (bdig Z1))), .v (.pointer (some ⟨bQ, 64, none⟩)), .v (.agg (B32 (bdig Z2))), .v (.agg (B32 (bdig zz))), .mk (B32 fun _ => 0) (B32 (bdig xx)) 22 18, .mk (B32 fun _ => 0) (B32 (bdig yy)) 22 19, .mk (B32 fun _ => 0) (B32 (bdig zz)) 22 20, .o, .o, .o] hK (by kernel_rfl) (by kernel_rfl) (by kernel_rfl) (by rfl) ?_ ?_
  · exact .c (.p1 2 (.pointer (some ⟨bP, 0, none⟩))) <| .c (.x [(13, .pointer (some ⟨bP, 0, none⟩))] fun _ _ _ _ _ hfx hkx hx => wp_load_prt 0 (by decide) (.tmp 13) rfl bP (hfx _ (.head _)) (hkx.at bP (QA ⟨X1, Y1, Z1⟩) 74 (.tail _ (.tail _ (.head _)))) (hx _ _ rfl (Below.refl _ _))) <| .c (.p1 3 (.pointer (some ⟨bQ, 0, none⟩))) <| .c (.x [(15, .pointer (some ⟨bQ, 0, none⟩))] fun _ _ _ _ _ hfx hkx hx => wp_load_prt 0 (by decide) (.tmp 15) rfl bQ (hfx _ (.head _)) (hkx.at bQ (QA ⟨X2, Y2, Z2⟩) 74 (.tail _ (.head _))) (hx _ _ rfl (Below.refl _ _))) <| .c (.ca fun _ _ hkx => cmul hX1.out hX2.out Hxx.out _ (TC.keep hT hkx.2)) <| .c (.p1 2 (.pointer (some ⟨bP, 0, none⟩))) <| .c (.x [(18, .pointer (some ⟨bP, 32, none⟩))] fun _ _ _ _ _ hfx hkx hx => wp_load_prt 1 (by decide) (.tmp 18) rfl bP (hfx _ (.head _)) (hkx.at bP (QA ⟨X1, Y1, Z1⟩) 74 (.tail _ (.tail _ (.head _)))) (hx _ _ rfl (Below.refl _ _))) <| .c (.p1 3 (.pointer (some ⟨bQ, 0, none⟩))) <| .c (.x [(20, .pointer (some ⟨bQ, 32, none⟩))] fun _ _ _ _ _ hfx hkx hx => wp_load_prt 1 (by decide) (.tmp 20) rfl bQ (hfx _ (.head _)) (hkx.at bQ (QA ⟨X2, Y2, Z2⟩) 74 (.tail _ (.head _))) (hx _ _ rfl (Below.refl _ _))) <| .c (.ca fun _ _ hkx => cmul hY1.out hY2.out Hyy.out _ (TC.keep hT hkx.2)) <| .c (.p1 2 (.pointer (some ⟨bP, 0, none⟩))) <| .c (.x [(23, .pointer (some ⟨bP, 64, none⟩))] fun _ _ _ _ _ hfx hkx hx => wp_load_prt 2 (by decide) (.tmp 23) rfl bP (hfx _ (.head _)) (hkx.at bP (QA ⟨X1, Y1, Z1⟩) 74 (.tail _ (.tail _ (.head _)))) (hx _ _ rfl (Below.refl _ _))) <| .c (.p1 3 (.pointer (some ⟨bQ, 0, none⟩))) <| .c (.x [(25, .pointer (some ⟨bQ, 64, none⟩))] fun _ _ _ _ _ hfx hkx hx => wp_load_prt 2 (by decide) (.tmp 25) rfl bQ (hfx _ (.head _)) (hkx.at bQ (QA ⟨X2, Y2, Z2⟩) 74 (.tail _ (.head _))) (hx _ _ rfl (Below.refl _ _))) <| .c (.ca fun _ _ hkx => cmul hZ1.out hZ2.out Hzz.out _ (TC.keep hT hkx.2)) <| .c (.al hz) <| .c (.al hz) <| .c (.al hz) <| .c (.st 15 (B32_info _) (B32_one _)) <| .c (.st 16 (B32_info _) (B32_one _)) <| .c (.st 17 (B32_info _) (B32_one _)) .nil
  intro vs V2 hJ hf
  obtain ⟨g3, hgg3⟩ := hf 15 _ _ rfl rfl
  obtain ⟨le0, apg3, owng3⟩ := hJ.got 15 hgg3
  have le_g3 := show Hid _ from le0
  clear le0
  obtain ⟨g4, hgg4⟩ := hf 16 _ _ rfl rfl
  obtain ⟨le0, apg4, owng4⟩ := hJ.got 16 hgg4
  have le_g4 := show Hid _ from le0
  clear le0
  obtain ⟨g5, hgg5⟩ := hf 17 _ _ rfl rfl
  obtain ⟨le0, apg5, owng5⟩ := hJ.got 17 hgg5
  have le_g5 := show Hid _ from le0
  clear le0
  have ne_g3_g4 := hJ.apart 15 16 hgg3 hgg4
  have ne_g3_g5 := hJ.apart 15 17 hgg3 hgg5
  have ne_g4_g5 := hJ.apart 16 17 hgg4 hgg5
  have ne_bR_g3 : Hid (bR ≠ g3) := apg3 (bR, QA ⟨0, 0, 0⟩, 74) (.head _)
  have ne_bR_g4 : Hid (bR ≠ g4) := apg4 (bR, QA ⟨0, 0, 0⟩, 74) (.head _)
  have ne_bR_g5 : Hid (bR ≠ g5) := apg5 (bR, QA ⟨0, 0, 0⟩, 74) (.head _)
  have hK : Kp [(g5, B32 (bdig zz), 22), (g4, B32 (bdig yy), 22), (g3, B32 (bdig xx), 22), (bR, QA ⟨0, 0, 0⟩, 74), (bQ, QA ⟨X2, Y2, Z2⟩, 74), (bP, QA ⟨X1, Y1, Z1⟩, 74)] w V2 := (((hJ.1.cons owng3).cons owng4).cons owng5)
  simp only [putL, Lv.val, Nat.zero_add, Nat.reduceAdd, hgg3, hgg4, hgg5, Act.put, List.setIfInBounds_toArray, List.set_cons_succ, List.set_cons_zero]
  clear hJ hf hgg3 hgg4 hgg5 apg3 apg4 apg5 owng3 owng4 owng5
  go_upto_region 2 with fail
  refine wp_region_lv 69 (fun _ => [(g5, B32 (bdig zz), 22), (g4, B32 (bdig yy), 22), (g3, B32 (bdig xx), 22), (bR, QA ⟨0, 0, 0⟩, 74), (bQ, QA ⟨X2, Y2, Z2⟩, 74), (bP, QA ⟨X1, Y1, Z1⟩, 74)]) [.v (.pointer (some ⟨bP, 0, none⟩)), .v (.agg (B32 (bdig X1))), .v (.pointer (some ⟨bQ, 32, none⟩)), .v (.agg (B32 (bdig Y2))), .v (.agg (B32 (bdig m1))), .v (.pointer (some ⟨bP, 32, none⟩)), .v (.agg (B32 (bdig Y1))), .v (.pointer (some ⟨bQ, 0, none⟩)), .v (.agg (B32 (bdig X2))), .v (.agg (B32 (bdig m2))), .v (.agg (B32 (bdig cr))), .mk (B32 fun _ => 0) (B32 (bdig cr)) 22 12, .o] hK (by kernel_rfl) (by kernel_rfl) (by kernel_rfl) (by rfl) ?_ ?_
  · exact .c (.p1 2 (.pointer (some ⟨bP, 0, none⟩))) <| .c (.x [(28, .pointer (some ⟨bP, 0, none⟩))] fun _ _ _ _ _ hfx hkx hx => wp_load_prt 0 (by decide) (.tmp 28) rfl bP (hfx _ (.head _)) (hkx.at bP (QA ⟨X1, Y1, Z1⟩) 74 (.tail _ (.tail _ (.tail _ (.tail _ (.tail _ (.head _))))))) (hx _ _ rfl (Below.refl _ _))) <| .c (.p1 3 (.pointer (some ⟨bQ, 0, none⟩))) <| .c (.x [(30, .pointer (some ⟨bQ, 32, none⟩))] fun _ _ _ _ _ hfx hkx hx => wp_load_prt 1 (by decide) (.tmp 30) rfl bQ (hfx _ (.head _)) (hkx.at bQ (QA ⟨X2, Y2, Z2⟩) 74 (.tail _ (.tail _ (.tail _ (.tail _ (.head _)))))) (hx _ _ rfl (Below.refl _ _))) <| .c (.ca fun _ _ hkx => cmul hX1.out hY2.out Hm1.out _ (TC.keep hT hkx.2)) <| .c (.p1 2 (.pointer (some ⟨bP, 0, none⟩))) <| .c (.x [(33, .pointer (some ⟨bP, 32, none⟩))] fun _ _ _ _ _ hfx hkx hx => wp_load_prt 1 (by decide) (.tmp 33) rfl bP (hfx _ (.head _)) (hkx.at bP (QA ⟨X1, Y1, Z1⟩) 74 (.tail _ (.tail _ (.tail _ (.tail _ (.tail _ (.head _))))))) (hx _ _ rfl (Below.refl _ _))) <| .c (.p1 3 (.pointer (some ⟨bQ, 0, none⟩))) <| .c (.x [(35, .pointer (some ⟨bQ, 0, none⟩))] fun _ _ _ _ _ hfx hkx hx => wp_load_prt 0 (by decide) (.tmp 35) rfl bQ (hfx _ (.head _)) (hkx.at bQ (QA ⟨X2, Y2, Z2⟩) 74 (.tail _ (.tail _ (.tail _ (.tail _ (.head _)))))) (hx _ _ rfl (Below.refl _ _))) <| .c (.ca fun _ _ hkx => cmul hY1.out hX2.out Hm2.out _ (TC.keep hT hkx.2)) <| .c (.ca fun _ _ hkx => cadd hm1.out hm2.out Hcr.out _ (TC.keep hT hkx.2)) <| .c (.al hz) <| .c (.st 11 (B32_info _) (B32_one _)) .nil
  intro vs V6 hJ hf
  obtain ⟨g7, hgg7⟩ := hf 11 _ _ rfl rfl
  obtain ⟨le0, apg7, owng7⟩ := hJ.got 11 hgg7
  have le_g7 := show Hid _ from le0
  clear le0
  have ne_bR_g7 : Hid (bR ≠ g7) := apg7 (bR, QA ⟨0, 0, 0⟩, 74) (.tail _ (.tail _ (.tail _ (.head _))))
  have hK : Kp [(g7, B32 (bdig cr), 22), (g5, B32 (bdig zz), 22), (g4, B32 (bdig yy), 22), (g3, B32 (bdig xx), 22), (bR, QA ⟨0, 0, 0⟩, 74), (bQ, QA ⟨X2, Y2, Z2⟩, 74), (bP, QA ⟨X1, Y1, Z1⟩, 74)] w V6 := (hJ.1.cons owng7)
  simp only [putL, Lv.val, Nat.zero_add, Nat.reduceAdd, hgg7, Act.put, List.setIfInBounds_toArray, List.set_cons_succ, List.set_cons_zero]
  clear hJ hf hgg7 apg7 owng7
  go_upto_region 3 with fail
  have hK : Kp [(g7, B32 (bdig cr), 22), (g5, B32 (bdig zz), 22), (g4, B32 (bdig yy), 22), (g3, B32 (bdig xx), 22), (bR, QA ⟨0, 0, 0⟩, 74)] w V6 := (((((hK.none.cons (hK.at bR (QA ⟨0, 0, 0⟩) 74 (.tail _ (.tail _ (.tail _ (.tail _ (.head _))))))).cons (hK.at g3 (B32 (bdig xx)) 22 (.tail _ (.tail _ (.tail _ (.head _)))))).cons (hK.at g4 (B32 (bdig yy)) 22 (.tail _ (.tail _ (.head _))))).cons (hK.at g5 (B32 (bdig zz)) 22 (.tail _ (.head _)))).cons (hK.at g7 (B32 (bdig cr)) 22 (.head _)))
  refine wp_region_lv 69 (fun _ => [(g7, B32 (bdig cr), 22), (g5, B32 (bdig zz), 22), (g4, B32 (bdig yy), 22), (g3, B32 (bdig xx), 22), (bR, QA ⟨0, 0, 0⟩, 74)]) [.v (.agg (B32 (bdig zz))), .v (.agg (B32 (bdig zz))), .v (.agg (B32 (bdig oz))), .v (.agg (B32 (bdig dd))), .v (.agg (B32 (bdig xx))), .v (.agg (B32 (bdig yy))), .v (.agg (B32 (bdig xy))), .v (.agg (B32 (bdig kq))), .mk (B32 fun _ => 0) (B32 (bdig oz)) 22 10, .mk (B32 fun _ => 0) (B32 (bdig kq)) 22 11, .o, .o] hK (by kernel_rfl) (by kernel_rfl) (by kernel_rfl) (by rfl) ?_ ?_
  · exact .c (.ld g5 (fun _ => .tail _ (.head _)) Tryz.underlying22 rfl (B32_info _)) <| .c (.ld g5 (fun _ => .tail _ (.head _)) Tryz.underlying22 rfl (B32_info _)) <| .c (.ca fun _ _ hkx => cmul hzz.out hzz.out Hoz.out _ (TC.keep hT hkx.2)) <| .c (.x [] fun _ _ _ _ _ hfx hkx hx => wp_load_d rfl (TC.keep hT hkx.2) (hx _ _ rfl (Below.refl _ _))) <| .c (.ld g3 (fun _ => .tail _ (.tail _ (.tail _ (.head _)))) Tryz.underlying22 rfl (B32_info _)) <| .c (.ld g4 (fun _ => .tail _ (.tail _ (.head _))) Tryz.underlying22 rfl (B32_info _)) <| .c (.ca fun _ _ hkx => cmul hxx.out hyy.out Hxy.out _ (TC.keep hT hkx.2)) <| .c (.ca fun _ _ hkx => cmul hdd.out hxy.out Hkq.out _ (TC.keep hT hkx.2)) <| .c (.al hz) <| .c (.al hz) <| .c (.st 8 (B32_info _) (B32_one _)) <| .c (.st 9 (B32_info _) (B32_one _)) .nil
  intro vs V9 hJ hf
  obtain ⟨g10, hgg10⟩ := hf 8 _ _ rfl rfl
  obtain ⟨le0, apg10, owng10⟩ := hJ.got 8 hgg10
  have le_g10 := show Hid _ from le0
  clear le0
  obtain ⟨g11, hgg11⟩ := hf 9 _ _ rfl rfl
  obtain ⟨le0, apg11, owng11⟩ := hJ.got 9 hgg11
  have le_g11 := show Hid _ from le0
  clear le0
  have ne_g10_g11 := hJ.apart 8 9 hgg10 hgg11
  have ne_bR_g10 : Hid (bR ≠ g10) := apg10 (bR, QA ⟨0, 0, 0⟩, 74) (.tail _ (.tail _ (.tail _ (.tail _ (.head _)))))
  have ne_bR_g11 : Hid (bR ≠ g11) := apg11 (bR, QA ⟨0, 0, 0⟩, 74) (.tail _ (.tail _ (.tail _ (.tail _ (.head _)))))
  have hK : Kp [(g11, B32 (bdig kq), 22), (g10, B32 (bdig oz), 22), (g7, B32 (bdig cr), 22), (g5, B32 (bdig zz), 22), (g4, B32 (bdig yy), 22), (g3, B32 (bdig xx), 22), (bR, QA ⟨0, 0, 0⟩, 74)] w V9 := ((hJ.1.cons owng10).cons owng11)
  simp only [putL, Lv.val, Nat.zero_add, Nat.reduceAdd, hgg10, hgg11, Act.put, List.setIfInBounds_toArray, List.set_cons_succ, List.set_cons_zero]
  clear hJ hf hgg10 hgg11 apg10 apg11 owng10 owng11
  go_upto_region 4 with fail
  refine wp_region_lv 69 (fun _ => [(g11, B32 (bdig kq), 22), (g10, B32 (bdig oz), 22), (g7, B32 (bdig cr), 22), (g5, B32 (bdig zz), 22), (g4, B32 (bdig yy), 22), (g3, B32 (bdig xx), 22), (bR, QA ⟨0, 0, 0⟩, 74)]) [.v (.agg (B32 (bdig oz))), .v (.agg (B32 (bdig kq))), .v (.agg (B32 (bdig ov))), .v (.agg (B32 (bdig oz))), .v (.agg (B32 (bdig kq))), .v (.agg (B32 (bdig un))), .mk (B32 fun _ => 0) (B32 (bdig ov)) 22 8, .mk (B32 fun _ => 0) (B32 (bdig un)) 22 9, .o, .o] hK (by kernel_rfl) (by kernel_rfl) (by kernel_rfl) (by rfl) ?_ ?_
  · exact .c (.ld g10 (fun _ => .tail _ (.head _)) Tryz.underlying22 rfl (B32_info _)) <| .c (.ld g11 (fun _ => .head _) Tryz.underlying22 rfl (B32_info _)) <| .c (.ca fun _ _ hkx => cadd hoz.out hkq.out Hov.out _ (TC.keep hT hkx.2)) <| .c (.ld g10 (fun _ => .tail _ (.head _)) Tryz.underlying22 rfl (B32_info _)) <| .c (.ld g11 (fun _ => .head _) Tryz.underlying22 rfl (B32_info _)) <| .c (.ca fun _ _ hkx => csub hoz.out hkq.out Hun.out _ (TC.keep hT hkx.2)) <| .c (.al hz) <| .c (.al hz) <| .c (.st 6 (B32_info _) (B32_one _)) <| .c (.st 7 (B32_info _) (B32_one _)) .nil
  intro vs V13 hJ hf
  obtain ⟨g14, hgg14⟩ := hf 6 _ _ rfl rfl
  obtain ⟨le0, apg14, owng14⟩ := hJ.got 6 hgg14
  have le_g14 := show Hid _ from le0
  clear le0
  obtain ⟨g15, hgg15⟩ := hf 7 _ _ rfl rfl
  obtain ⟨le0, apg15, owng15⟩ := hJ.got 7 hgg15
  have le_g15 := show Hid _ from le0
  clear le0
  have ne_g14_g15 := hJ.apart 6 7 hgg14 hgg15
  have ne_bR_g14 : Hid (bR ≠ g14) := apg14 (bR, QA ⟨0, 0, 0⟩, 74) (.tail _ (.tail _ (.tail _ (.tail _ (.tail _ (.tail _ (.head _)))))))
  have ne_bR_g15 : Hid (bR ≠ g15) := apg15 (bR, QA ⟨0, 0, 0⟩, 74) (.tail _ (.tail _ (.tail _ (.tail _ (.tail _ (.tail _ (.head _)))))))
  have hK : Kp [(g15, B32 (bdig un), 22), (g14, B32 (bdig ov), 22), (g11, B32 (bdig kq), 22), (g10, B32 (bdig oz), 22), (g7, B32 (bdig cr), 22), (g5, B32 (bdig zz), 22), (g4, B32 (bdig yy), 22), (g3, B32 (bdig xx), 22), (bR, QA ⟨0, 0, 0⟩, 74)] w V13 := ((hJ.1.cons owng14).cons owng15)
  simp only [putL, Lv.val, Nat.zero_add, Nat.reduceAdd, hgg14, hgg15, Act.put, List.setIfInBounds_toArray, List.set_cons_succ, List.set_cons_zero]
  clear hJ hf hgg14 hgg15 apg14 apg15 owng14 owng15
  go_upto_region 5 with fail
  have hK : Kp [(g15, B32 (bdig un), 22), (g14, B32 (bdig ov), 22), (g7, B32 (bdig cr), 22), (g5, B32 (bdig zz), 22), (g4, B32 (bdig yy), 22), (g3, B32 (bdig xx), 22), (bR, QA ⟨0, 0, 0⟩, 74)] w V13 := (((((((hK.none.cons (hK.at bR (QA ⟨0, 0, 0⟩) 74 (.tail _ (.tail _ (.tail _ (.tail _ (.tail _ (.tail _ (.tail _ (.tail _ (.head _))))))))))).cons (hK.at g3 (B32 (bdig xx)) 22 (.tail _ (.tail _ (.tail _ (.tail _ (.tail _ (.tail _ (.tail _ (.head _)))))))))).cons (hK.at g4 (B32 (bdig yy)) 22 (.tail _ (.tail _ (.tail _ (.tail _ (.tail _ (.tail _ (.head _))))))))).cons (hK.at g5 (B32 (bdig zz)) 22 (.tail _ (.tail _ (.tail _ (.tail _ (.tail _ (.head _)))))))).cons (hK.at g7 (B32 (bdig cr)) 22 (.tail _ (.tail _ (.tail _ (.tail _ (.head _))))))).cons (hK.at g14 (B32 (bdig ov)) 22 (.tail _ (.head _)))).cons (hK.at g15 (B32 (bdig un)) 22 (.head _)))
  refine wp_region_lv 69 (fun L => [(g15, B32 (bdig un), 22), (g14, B32 (bdig ov), 22), (g7, B32 (bdig cr), 22), (g5, B32 (bdig zz), 22), (g4, B32 (bdig yy), 22), (g3, B32 (bdig xx), 22), (bR, if L 16 = true then QA ⟨X, Y, Z⟩ else QA ⟨0, 0, 0⟩, 74)]) [.v (.agg (B32 (bdig zz))), .v (.agg (B32 (bdig cr))), .v (.agg (B32 (bdig un))), .v (.agg (B32 (bdig au))), .v (.agg (B32 (bdig X))), .v (.agg (B32 (bdig zz))), .v (.agg (B32 (bdig yy))), .v (.agg (B32 (bdig xx))), .v (.agg (B32 (bdig yx))), .v (.agg (B32 (bdig ov))), .v (.agg (B32 (bdig yo))), .v (.agg (B32 (bdig Y))), .v (.agg (B32 (bdig ov))), .v (.agg (B32 (bdig un))), .v (.agg (B32 (bdig Z))), .v (.agg (QA ⟨X, Y, Z⟩)), .o] hK (by kernel_rfl) (by kernel_rfl) (by kernel_rfl) (by rfl) ?_ ?_
  · exact .c (.ld g5 (fun _ => .tail _ (.tail _ (.tail _ (.head _)))) Tryz.underlying22 rfl (B32_info _)) <| .c (.ld g7 (fun _ => .tail _ (.tail _ (.head _))) Tryz.underlying22 rfl (B32_info _)) <| .c (.ld g15 (fun _ => .head _) Tryz.underlying22 rfl (B32_info _)) <| .c (.ca fun _ _ hkx => cmul hcr.out hun.out Hau.out _ (TC.keep hT hkx.2)) <| .c (.ca fun _ _ hkx => cmul hzz.out hau.out HX.out _ (TC.keep hT hkx.2)) <| .c (.ld g5 (fun _ => .tail _ (.tail _ (.tail _ (.head _)))) Tryz.underlying22 rfl (B32_info _)) <| .c (.ld g4 (fun _ => .tail _ (.tail _ (.tail _ (.tail _ (.head _))))) Tryz.underlying22 rfl (B32_info _)) <| .c (.ld g3 (fun _ => .tail _ (.tail _ (.tail _ (.tail _ (.tail _ (.head _)))))) Tryz.underlying22 rfl (B32_info _)) <| .c (.ca fun _ _ hkx => cadd hyy.out hxx.out Hyx.out _ (TC.keep hT hkx.2)) <| .c (.ld g14 (fun _ => .tail _ (.head _)) Tryz.underlying22 rfl (B32_info _)) <| .c (.ca fun _ _ hkx => cmul hyx.out hov.out Hyo.out _ (TC.keep hT hkx.2)) <| .c (.ca fun _ _ hkx => cmul hzz.out hyo.out HY.out _ (TC.keep hT hkx.2)) <| .c (.ld g14 (fun _ => .tail _ (.head _)) Tryz.underlying22 rfl (B32_info _)) <| .c (.ld g15 (fun _ => .head _) Tryz.underlying22 rfl (B32_info _)) <| .c (.ca fun _ _ hkx => cmul hov.out hun.out HZ.out _ (TC.keep hT hkx.2)) <| .c (.x [(57, .agg (B32 (bdig X))), (64, .agg (B32 (bdig Y))), (67, .agg (B32 (bdig Z)))] fun _ _ _ _ _ hfx hkx hx => wp_build_q 57 64 67 (X) (Y) (Z) rfl (hfx _ (.head _)) (hfx _ (.tail _ (.head _))) (hfx _ (.tail _ (.tail _ (.head _)))) (hx _ _ rfl (Below.refl _ _))) <| .c (.sk bR (.nx (fun _ => rfl) (fun _ => rfl) (fun _ => Ne.symm ne_bR_g15.out) <| .nx (fun _ => rfl) (fun _ => rfl) (fun _ => Ne.symm ne_bR_g14.out) <| .nx (fun _ => rfl) (fun _ => rfl) (fun _ => Ne.symm ne_bR_g7.out) <| .nx (fun _ => rfl) (fun _ => rfl) (fun _ => Ne.symm ne_bR_g5.out) <| .nx (fun _ => rfl) (fun _ => rfl) (fun _ => Ne.symm ne_bR_g4.out) <| .nx (fun _ => rfl) (fun _ => rfl) (fun _ => Ne.symm ne_bR_g3.out) <| .hr (fun _ => rfl) (fun _ => rfl) (fun _ => fn)) le_bR.out (QA_info _) (QA_one _)) .nil
  intro _ V16 hJ _
  have hK : Kp [(g15, B32 (bdig un), 22), (g14, B32 (bdig ov), 22), (g7, B32 (bdig cr), 22), (g5, B32 (bdig zz), 22), (g4, B32 (bdig yy), 22), (g3, B32 (bdig xx), 22), (bR, QA ⟨X, Y, Z⟩, 74)] w V16 := hJ.1
  clear hJ
  simp only [putL, Lv.val, Act.put, List.setIfInBounds_toArray, List.set_cons_succ, List.set_cons_zero]
  go_wp2_with fail
  exact bodyPost_ret (results_own Tryz.results63 _ _ bR (QA ⟨X, Y, Z⟩) _ (by rfl) (hK.at bR (QA ⟨X, Y, Z⟩) 74 (.tail _ (.tail _ (.tail _ (.tail _ (.tail _ (.tail _ (.head _)))))))) Tryz.underlying74 rfl (QA_info _)) rfl ⟨rfl, hK.2⟩
theorem sum_at {P Q : Pt E5} {p q s : N3} (hp : Ok3 P p) (hq : Ok3 Q q) (hs : sum3 p q = s) (w : World) (hT : TC w) : Calls Tryz.prog 63 #[.agg (QA p), .agg (QA q)] w fun x w' => x = .returned (.agg (QA s)) ∧ Below w.heap.size w w' := by
  subst hs
  exact sum_nat hp.lX hp.lY hp.lZ hq.lX hq.lY hq.lZ w hT
end Go.Proofs.YtgibllaifnnfkaaGreatDoor
