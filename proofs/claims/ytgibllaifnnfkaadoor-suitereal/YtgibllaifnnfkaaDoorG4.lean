/- The walk of the program's write. -/
import Derived.Test.YtgibllaifnnfkaaDoorGA
import Derived.Test.YtgibllaifnnfkaaDoorRG
namespace Go.Proofs.YtgibllaifnnfkaaDoor
open Go Go.RowKit
theorem bdig_odd (x : Nat) : bdig x 0 % 2 = x % 2 := by
  unfold bdig
  rw [Nat.pow_zero, Nat.div_one]
  omega
theorem and1_u8 (x : Nat) : bits .and .u8 (bdig x 0 : Int) 1 = ((x % 2 : Nat) : Int) := by
  have h := u8_and_nat (bdig x 0) 1 (bdig_lt _ _) (by decide)
  rw [Nat.and_one_is_mod, bdig_odd] at h
  exact h

set_option maxRecDepth 100000 in
set_option maxHeartbeats 4000000 in
theorem write_nat {X Y Z : Nat} (hX : Hid (X < R256)) (hY : Hid (Y < R256)) (hZ : Hid (Z < R256)) (w : World) (hT : TC w) : Calls Tryd.prog 28 #[.agg (QA ⟨X, Y, Z⟩)] w fun e w' => e = .returned (.agg (B32 (bdig (Y * finv Z % pp + HH * (X * finv Z % pp % 2))))) ∧ Below w.heap.size w w' := by
  have hz := (zero_of_info zeroB32).1
  obtain ⟨zi, Hzi⟩ : ∃ x, Hid (finv Z = x) := ⟨_, rfl⟩
  have hzi : Hid (zi < R256) := by show _ < _; rw [← Hzi.out]; exact finv_lR _
  rw [Hzi.out]
  obtain ⟨x, Hx⟩ : ∃ x, Hid (X * zi % pp = x) := ⟨_, rfl⟩
  obtain ⟨y, Hy⟩ : ∃ x, Hid (Y * zi % pp = x) := ⟨_, rfl⟩
  have hyH : Hid (y < HH) := by show _ < _; rw [← Hy.out]; exact Nat.lt_trans (Nat.mod_lt _ pp_pos) pp_HH
  rw [Hx.out, Hy.out]
  go_enter Tryd.func28, Tryd.ntmps28
  go_upto_region 1 with fail
  have hK := ((Kp.nil w).alloc (QA ⟨X, Y, Z⟩) 55).alloc (B32 fun _ => 0) 22
  rw [World.size_alloc] at hK
  generalize (w.alloc (.cells (QA ⟨X, Y, Z⟩) 55)).alloc (.cells (B32 fun _ => 0) 22) = W at *
  obtain ⟨bP, HbP⟩ : ∃ b, Hid (w.heap.size = b) := ⟨_, rfl⟩
  obtain ⟨bR, HbR⟩ : ∃ b, Hid (bP + 1 = b) := ⟨_, rfl⟩
  have le_bP : Hid (w.heap.size ≤ bP) := by show _ ≤ _; have := HbP.out; omega
  have le_bR : Hid (w.heap.size ≤ bR) := by show _ ≤ _; have := HbP.out; have := HbR.out; omega
  have ne_bP_bR : Hid (bP ≠ bR) := by show _ ≠ _; have := HbR.out; omega
  rw [HbP.out, HbR.out] at hK ⊢
  go_wp2_with (refine wpList_load_prt (by rfl) 2 (by decide) (.tmp 6) (by rfl) bP (by rfl) (hK.at bP (QA ⟨X, Y, Z⟩) 55 (.tail _ (.head _))) ?_)
  refine (cinv hZ.out Hzi.out _ (TC.keep hT hK.2)).mono ?_
  rintro e V1 ⟨rfl, bw⟩
  have hK := hK.below bw
  clear bw
  go_upto_region 2 with (refine wpList_store_new (by rfl) 22 (.tmp 3) (.tmp 8) (by rfl) _ (B32 (bdig zi)) (by rfl) (by rfl) (B32_info _) (B32_sizes _ _) (B32_one _) (by rfl) ?_)
  have lt_bR := (hK.at bR (B32 fun _ => 0) 22 (.head _)).lt
  have lt_bP := (hK.at bP (QA ⟨X, Y, Z⟩) 55 (.tail _ (.head _))).lt
  have le_b2 := show Hid _ from hK.2.size
  have hK := hK.alloc (B32 (bdig zi)) 22
  generalize V1.alloc (.cells (B32 (bdig zi)) 22) = V3 at *
  obtain ⟨b2, Hb2⟩ : ∃ b, Hid (V1.heap.size = b) := ⟨_, rfl⟩
  have ne_bR_b2 : Hid (bR ≠ b2) := by show _ ≠ _; rw [← Hb2.out]; exact Nat.ne_of_lt lt_bR
  have ne_bP_b2 : Hid (bP ≠ b2) := by show _ ≠ _; rw [← Hb2.out]; exact Nat.ne_of_lt lt_bP
  have le_b2 : Hid (w.heap.size ≤ b2) := by show _ ≤ _; rw [← Hb2.out]; exact le_b2.out
  rw [Hb2.out] at hK ⊢
  clear lt_bR lt_bP
  refine wp_region_lv 26 (fun _ => [(b2, B32 (bdig zi), 22), (bR, B32 fun _ => 0, 22), (bP, QA ⟨X, Y, Z⟩, 55)]) [.v (.pointer (some ⟨bP, 0, none⟩)), .v (.agg (B32 (bdig X))), .v (.agg (B32 (bdig zi))), .v (.agg (B32 (bdig x))), .v (.pointer (some ⟨bP, 32, none⟩)), .v (.agg (B32 (bdig Y))), .v (.agg (B32 (bdig zi))), .v (.agg (B32 (bdig y))), .mk (B32 fun _ => 0) (B32 (bdig x)) 22 10, .mk (B32 fun _ => 0) (B32 (bdig y)) 22 11, .o, .o] hK (by kernel_rfl) (by kernel_rfl) (by kernel_rfl) (by rfl) ?_ ?_
  · exact .c (.p1 1 (.pointer (some ⟨bP, 0, none⟩))) <| .c (.x [(9, .pointer (some ⟨bP, 0, none⟩))] fun _ _ _ _ _ hfx hkx hx => wp_load_prt 0 (by decide) (.tmp 9) rfl bP (hfx _ (.head _)) (hkx.at bP (QA ⟨X, Y, Z⟩) 55 (.tail _ (.tail _ (.head _)))) (hx _ _ rfl (Below.refl _ _))) <| .c (.ld b2 (fun _ => .head _) Tryd.underlying22 rfl (B32_info _)) <| .c (.ca fun _ _ hkx => cmul hX.out hzi.out Hx.out _ (TC.keep hT hkx.2)) <| .c (.p1 1 (.pointer (some ⟨bP, 0, none⟩))) <| .c (.x [(13, .pointer (some ⟨bP, 32, none⟩))] fun _ _ _ _ _ hfx hkx hx => wp_load_prt 1 (by decide) (.tmp 13) rfl bP (hfx _ (.head _)) (hkx.at bP (QA ⟨X, Y, Z⟩) 55 (.tail _ (.tail _ (.head _)))) (hx _ _ rfl (Below.refl _ _))) <| .c (.ld b2 (fun _ => .head _) Tryd.underlying22 rfl (B32_info _)) <| .c (.ca fun _ _ hkx => cmul hY.out hzi.out Hy.out _ (TC.keep hT hkx.2)) <| .c (.al hz) <| .c (.al hz) <| .c (.st 8 (B32_info _) (B32_one _)) <| .c (.st 9 (B32_info _) (B32_one _)) .nil
  intro vs V5 hJ hf
  obtain ⟨g6, hgg6⟩ := hf 8 _ _ rfl rfl
  obtain ⟨le0, apg6, owng6⟩ := hJ.got 8 hgg6
  have le_g6 := show Hid _ from le0
  clear le0
  obtain ⟨g7, hgg7⟩ := hf 9 _ _ rfl rfl
  obtain ⟨le0, apg7, owng7⟩ := hJ.got 9 hgg7
  have le_g7 := show Hid _ from le0
  clear le0
  have ne_g6_g7 := hJ.apart 8 9 hgg6 hgg7
  have ne_bR_g6 : Hid (bR ≠ g6) := apg6 (bR, B32 fun _ => 0, 22) (.tail _ (.head _))
  have ne_bR_g7 : Hid (bR ≠ g7) := apg7 (bR, B32 fun _ => 0, 22) (.tail _ (.head _))
  have hK : Kp [(g7, B32 (bdig y), 22), (g6, B32 (bdig x), 22), (b2, B32 (bdig zi), 22), (bR, B32 fun _ => 0, 22), (bP, QA ⟨X, Y, Z⟩, 55)] w V5 := ((hJ.1.cons owng6).cons owng7)
  simp only [putL, Lv.val, Nat.zero_add, Nat.reduceAdd, hgg6, hgg7, Act.put, List.setIfInBounds_toArray, List.set_cons_succ, List.set_cons_zero]
  clear hJ hf hgg6 hgg7 apg6 apg7 owng6 owng7
  go_upto_region 3 with fail
  have hK : Kp [(g7, B32 (bdig y), 22), (g6, B32 (bdig x), 22), (bR, B32 fun _ => 0, 22)] w V5 := (((hK.none.cons (hK.at bR (B32 fun _ => 0) 22 (.tail _ (.tail _ (.tail _ (.head _)))))).cons (hK.at g6 (B32 (bdig x)) 22 (.tail _ (.head _)))).cons (hK.at g7 (B32 (bdig y)) 22 (.head _)))
  have cX := (hK.at g6 (B32 (bdig x)) 22 (.tail _ (.head _))).cell (B32_at (bdig x) 0 (by decide))
  have hand := and1_u8 x
  generalize bdig x 0 = x0 at *
  have hb2 : x % 2 = 0 ∨ x % 2 = 1 := by omega
  rcases hb2 with hb | hb
  · have He : Hid (y + HH * (x % 2) = y) := by show _ = _; rw [hb, Nat.mul_zero, Nat.add_zero]
    rw [hb] at hand
    clear hb
    go_upto_region 5 with fail
    go_wp2_with (first
      | refine wpList_load_own (by rfl) 22 (.tmp 5) (by rfl) g7 (by rfl) (B32 (bdig y)) _ (hK.at g7 (B32 (bdig y)) 22 (.head _)) Tryd.underlying22 (by rfl) (B32_info _) ?_
      | refine wpList_store_own (by rfl) 22 (.tmp 2) (.tmp 25) (by rfl) bR 0 (B32 (bdig y)) (by rfl) (by rfl) (hK.at bR (B32 fun _ => 0) 22 (.tail _ (.tail _ (.head _)))) (B32_le _ _) (B32_info _) (B32_one _) (by rfl) ?_)
    exact bodyPost_ret (results_own Tryd.results28 _ _ bR (B32 (bdig y)) _ (by rfl) (own_setCells (hK.at bR (B32 fun _ => 0) 22 (.tail _ (.tail _ (.head _)))) (B32_sizes _ _)) Tryd.underlying22 rfl (B32_info _)) rfl ⟨by rw [He.out], Below.setCells _ _ _ _ le_bR.out hK.2⟩
  · have He : Hid (y + HH * (x % 2) = y + HH) := by show _ = _; rw [hb, Nat.mul_one]
    rw [hb] at hand
    clear hb
    go_upto_region 4 with fail
    clear cX hand
    have cB := (hK.at g7 (B32 (bdig y)) 22 (.head _)).cell (B32_at (bdig y) 31 (by decide))
    have fB := (hK.at g7 (B32 (bdig y)) 22 (.head _)).frozen 31
    have hor := or_top hyH.out
    obtain ⟨u, Hu⟩ : ∃ u, Hid (bdig y 31 + 128 = u) := ⟨_, rfl⟩
    rw [Hu.out] at hor
    have hK := Kp.setCell (i := 31) (v := .int .u8 (u : Int)) hK (by simp only [List.forall_mem_cons, List.not_mem_nil, false_implies, implies_true, and_true]; exact ⟨ne_g6_g7.out, ne_bR_g7.out⟩) le_g7.out
    rw [B32_set _ 31 _ (by decide), ← Hu.out, B32_top hyH.out, Hu.out] at hK
    generalize bdig y 31 = d31 at *
    go_upto_region 5 with fail
    generalize V5.setCell ⟨g7, 31, none⟩ (.int .u8 (u : Int)) = VV at *
    go_wp2_with (first
      | refine wpList_load_own (by rfl) 22 (.tmp 5) (by rfl) g7 (by rfl) (B32 (bdig (y + HH))) _ (hK.at g7 (B32 (bdig (y + HH))) 22 (.head _)) Tryd.underlying22 (by rfl) (B32_info _) ?_
      | refine wpList_store_own (by rfl) 22 (.tmp 2) (.tmp 25) (by rfl) bR 0 (B32 (bdig (y + HH))) (by rfl) (by rfl) (hK.at bR (B32 fun _ => 0) 22 (.tail _ (.tail _ (.head _)))) (B32_le _ _) (B32_info _) (B32_one _) (by rfl) ?_)
    exact bodyPost_ret (results_own Tryd.results28 _ _ bR (B32 (bdig (y + HH))) _ (by rfl) (own_setCells (hK.at bR (B32 fun _ => 0) 22 (.tail _ (.tail _ (.head _)))) (B32_sizes _ _)) Tryd.underlying22 rfl (B32_info _)) rfl ⟨by rw [He.out], Below.setCells _ _ _ _ le_bR.out hK.2⟩
theorem write_at {P : Pt E5} {r : N3} {c : Nat} (hr : Ok3 P r) (hc : enc P = c) (w : World) (hT : TC w) : Calls Tryd.prog 28 #[.agg (QA r)] w fun e w' => e = .returned (.agg (B32 (bdig c))) ∧ Below w.heap.size w w' := by
  subst hc
  rw [← hr.enc]
  exact write_nat hr.lX hr.lY hr.lZ w hT
end Go.Proofs.YtgibllaifnnfkaaDoor
