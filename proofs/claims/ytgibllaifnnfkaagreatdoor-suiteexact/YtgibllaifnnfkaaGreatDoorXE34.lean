/- Of the texts V3: what the card of this claim reaches. -/
import Derived.Test.YtgibllaifnnfkaaGreatDoorXE33
import Derived.Test.YtgibllaifnnfkaaGreatDoorXE11
import Derived.Test.YtgibllaifnnfkaaGreatDoorXE3
import Derived.Test.YtgibllaifnnfkaaGreatDoorXE4
namespace Go.Proofs.YtgibllaifnnfkaaGreatDoor
open Go Go.RowKit
def enc4 (r : N4) : Nat := r.Y * finv r.Z % pp + HH * (r.X * finv r.Z % pp % 2)
set_option maxRecDepth 100000 in
set_option maxHeartbeats 2000000 in
theorem encode_nat {X Y Z T : Nat} (hX : Hid (X < R256)) (hY : Hid (Y < R256)) (hZ : Hid (Z < R256)) (w : World) : Calls Tryz.prog 74 #[.agg (PA ⟨X, Y, Z, T⟩)] w fun e w' => e = .returned (.agg (B32 (bdig (enc4 ⟨X, Y, Z, T⟩)))) ∧ Below w.heap.size w w' := by
  have hz := (zero_of_info zeroLit).1
  have hzB := (zero_of_info zeroB32).1
  obtain ⟨zi, Hzi⟩ : ∃ x, Hid (finv Z = x) := ⟨_, rfl⟩
  have hzi : Hid (zi < R256) := by show _ < _; rw [← Hzi.out]; exact finv_R _
  obtain ⟨x, Hx⟩ : ∃ x, Hid (X * zi % pp = x) := ⟨_, rfl⟩
  obtain ⟨y, Hy⟩ : ∃ x, Hid (Y * zi % pp = x) := ⟨_, rfl⟩
  have hyH : Hid (y < HH) := by show _ < _; rw [← Hy.out]; exact Nat.lt_trans (Nat.mod_lt _ pp_pos) pp_HH
  have Henc : Hid (enc4 ⟨X, Y, Z, T⟩ = y + HH * (x % 2)) := by show _ = _; rw [← Hx.out, ← Hy.out, ← Hzi.out]; rfl
  rw [Henc.out]
  clear Henc
  go_enter Tryz.func74, Tryz.ntmps74
  go_upto_region 1 with fail
  have hK := ((Kp.nil w).alloc (PA ⟨X, Y, Z, T⟩) 56).alloc (B32 fun _ => 0) 22
  rw [World.size_alloc] at hK
  generalize (w.alloc (.cells (PA ⟨X, Y, Z, T⟩) 56)).alloc (.cells (B32 fun _ => 0) 22) = W at *
  obtain ⟨bP, HbP⟩ : ∃ b, Hid (w.heap.size = b) := ⟨_, rfl⟩
  obtain ⟨bR, HbR⟩ : ∃ b, Hid (bP + 1 = b) := ⟨_, rfl⟩
  have le_bP : Hid (w.heap.size ≤ bP) := by show _ ≤ _; have := HbP.out; omega
  have le_bR : Hid (w.heap.size ≤ bR) := by show _ ≤ _; have := HbP.out; have := HbR.out; omega
  have ne_bP_bR : Hid (bP ≠ bR) := by show _ ≠ _; have := HbR.out; omega
  rw [HbP.out, HbR.out] at hK ⊢
  go_wp2_with (refine wpList_load_part (by rfl) 2 (by decide) (.tmp 7) (by rfl) bP (by rfl) (hK.at bP (PA ⟨X, Y, Z, T⟩) 56 (.tail _ (.head _))) ?_)
  refine (inv_at hZ.out Hzi.out _).mono ?_
  rintro e V1 ⟨rfl, bw⟩
  have hK := hK.below bw
  clear bw
  go_upto_region 2 with (refine wpList_store_new (by rfl) 54 (.tmp 3) (.tmp 9) (by rfl) _ (numA zi) (by rfl) (by rfl) (numA_info _) (lit4_size _ _ _ _ _) (numA_one _) (by rfl) ?_)
  have lt_bR := (hK.at bR (B32 fun _ => 0) 22 (.head _)).lt
  have lt_bP := (hK.at bP (PA ⟨X, Y, Z, T⟩) 56 (.tail _ (.head _))).lt
  have le_b2 := show Hid _ from hK.2.size
  have hK := hK.alloc (numA zi) 54
  generalize V1.alloc (.cells (numA zi) 54) = V3 at *
  obtain ⟨b2, Hb2⟩ : ∃ b, Hid (V1.heap.size = b) := ⟨_, rfl⟩
  have ne_bR_b2 : Hid (bR ≠ b2) := by show _ ≠ _; rw [← Hb2.out]; exact Nat.ne_of_lt lt_bR
  have ne_bP_b2 : Hid (bP ≠ b2) := by show _ ≠ _; rw [← Hb2.out]; exact Nat.ne_of_lt lt_bP
  have le_b2 : Hid (w.heap.size ≤ b2) := by show _ ≤ _; rw [← Hb2.out]; exact le_b2.out
  rw [Hb2.out] at hK ⊢
  clear lt_bR lt_bP
  refine wp_region_lv 29 (fun _ => [(b2, numA zi, 54), (bR, B32 fun _ => 0, 22), (bP, PA ⟨X, Y, Z, T⟩, 56)]) [.v (.pointer (some ⟨bP, 0, none⟩)), .v (.agg (numA X)), .v (.agg (numA zi)), .v (.agg (numA x)), .v (.pointer (some ⟨bP, 4, none⟩)), .v (.agg (numA Y)), .v (.agg (numA zi)), .v (.agg (numA y)), .mk (numA 0) (numA x) 54 10, .mk (numA 0) (numA y) 54 11, .o, .o] hK (by kernel_rfl) (by kernel_rfl) (by kernel_rfl) (by rfl) ?_ ?_
  · exact .c (.p1 1 (.pointer (some ⟨bP, 0, none⟩))) <| .c (.x [(10, .pointer (some ⟨bP, 0, none⟩))] fun _ _ _ _ _ hfx hkx hx => wp_load_part 0 (by decide) (.tmp 10) rfl bP (hfx _ (.head _)) (hkx.at bP (PA ⟨X, Y, Z, T⟩) 56 (.tail _ (.tail _ (.head _)))) (hx _ _ rfl (Below.refl _ _))) <| .c (.ld b2 (fun _ => .head _) Tryz.underlying54 rfl (numA_info _)) <| .c (.ca fun _ _ _ => mul_at hX.out hzi.out Hx.out _) <| .c (.p1 1 (.pointer (some ⟨bP, 0, none⟩))) <| .c (.x [(14, .pointer (some ⟨bP, 4, none⟩))] fun _ _ _ _ _ hfx hkx hx => wp_load_part 1 (by decide) (.tmp 14) rfl bP (hfx _ (.head _)) (hkx.at bP (PA ⟨X, Y, Z, T⟩) 56 (.tail _ (.tail _ (.head _)))) (hx _ _ rfl (Below.refl _ _))) <| .c (.ld b2 (fun _ => .head _) Tryz.underlying54 rfl (numA_info _)) <| .c (.ca fun _ _ _ => mul_at hY.out hzi.out Hy.out _) <| .c (.al hz) <| .c (.al hz) <| .c (.st 8 (numA_info _) (numA_one _)) <| .c (.st 9 (numA_info _) (numA_one _)) .nil
  intro vs V5 hJ hf
  obtain ⟨g6, hgg6⟩ := hf 8 _ _ rfl rfl
  obtain ⟨le0, apg6, owng6⟩ := hJ.got 8 hgg6
  have le_g6 := show Hid _ from le0
  clear le0
  obtain ⟨g7, hgg7⟩ := hf 9 _ _ rfl rfl
  obtain ⟨le0, apg7, owng7⟩ := hJ.got 9 hgg7
  have le_g7 := show Hid _ from le0
  clear le0
  have ne_g6_g7 := hJ.apart 8 9 hgg6 hgg7
  have ne_bR_g6 : Hid (bR ≠ g6) := apg6 (bR, B32 fun _ => 0, 22) (.tail _ (.head _))
  have ne_bR_g7 : Hid (bR ≠ g7) := apg7 (bR, B32 fun _ => 0, 22) (.tail _ (.head _))
  have hK : Kp [(g7, numA y, 54), (g6, numA x, 54), (b2, numA zi, 54), (bR, B32 fun _ => 0, 22), (bP, PA ⟨X, Y, Z, T⟩, 56)] w V5 := ((hJ.1.cons owng6).cons owng7)
  simp only [putL, Lv.val, Nat.zero_add, Nat.reduceAdd, hgg6, hgg7, Act.put, List.setIfInBounds_toArray, List.set_cons_succ, List.set_cons_zero]
  clear hJ hf hgg6 hgg7 apg6 apg7 owng6 owng7
  go_upto_region 3 with fail
  have hK : Kp [(g7, numA y, 54), (g6, numA x, 54), (bR, B32 fun _ => 0, 22)] w V5 := (((hK.none.cons (hK.at bR (B32 fun _ => 0) 22 (.tail _ (.tail _ (.tail _ (.head _)))))).cons (hK.at g6 (numA x) 54 (.tail _ (.head _)))).cons (hK.at g7 (numA y) 54 (.head _)))
  go_wp2_with (refine wpList_load_own (by rfl) 54 (.tmp 5) (by rfl) g7 (by rfl) (numA y) _ (hK.at g7 (numA y) 54 (.head _)) Tryz.underlying54 (by rfl) (numA_info _) ?_)
  refine (bytesOf_any y _).mono ?_
  rintro e V8 ⟨rfl, bw⟩
  have hK := hK.below bw
  clear bw
  go_upto_region 4 with (refine wpList_store_new (by rfl) 22 (.tmp 6) (.tmp 19) (by rfl) _ (B32 (bdig y)) (by rfl) (by rfl) (B32_info _) (B32_sizes _ _) (B32_one _) (by rfl) ?_)
  have lt_g7 := (hK.at g7 (numA y) 54 (.head _)).lt
  have lt_g6 := (hK.at g6 (numA x) 54 (.tail _ (.head _))).lt
  have lt_bR := (hK.at bR (B32 fun _ => 0) 22 (.tail _ (.tail _ (.head _)))).lt
  have le_b9 := show Hid _ from hK.2.size
  have hK := hK.alloc (B32 (bdig y)) 22
  generalize V8.alloc (.cells (B32 (bdig y)) 22) = V10 at *
  obtain ⟨b9, Hb9⟩ : ∃ b, Hid (V8.heap.size = b) := ⟨_, rfl⟩
  have ne_g7_b9 : Hid (g7 ≠ b9) := by show _ ≠ _; rw [← Hb9.out]; exact Nat.ne_of_lt lt_g7
  have ne_g6_b9 : Hid (g6 ≠ b9) := by show _ ≠ _; rw [← Hb9.out]; exact Nat.ne_of_lt lt_g6
  have ne_bR_b9 : Hid (bR ≠ b9) := by show _ ≠ _; rw [← Hb9.out]; exact Nat.ne_of_lt lt_bR
  have le_b9 : Hid (w.heap.size ≤ b9) := by show _ ≤ _; rw [← Hb9.out]; exact le_b9.out
  rw [Hb9.out] at hK ⊢
  clear lt_g7 lt_g6 lt_bR
  have cX := (hK.at g6 (numA x) 54 (.tail _ (.tail _ (.head _)))).cell (numA_at x 0 (by decide))
  have hand := and1_u64 (dig x 0) (dig_lt _ _)
  rw [dig_odd x] at hand
  generalize dig x 0 = x0 at *
  have hb2 : x % 2 = 0 ∨ x % 2 = 1 := by omega
  rcases hb2 with hb | hb
  · have He : Hid (y + HH * (x % 2) = y) := by show _ = _; rw [hb, Nat.mul_zero, Nat.add_zero]
    rw [hb] at hand
    clear hb
    go_upto_region 6 with fail
    go_wp2_with (first
      | refine wpList_load_own (by rfl) 22 (.tmp 6) (by rfl) b9 (by rfl) (B32 (bdig y)) _ (hK.at b9 (B32 (bdig y)) 22 (.head _)) Tryz.underlying22 (by rfl) (B32_info _) ?_
      | refine wpList_store_own (by rfl) 22 (.tmp 2) (.tmp 28) (by rfl) bR 0 (B32 (bdig y)) (by rfl) (by rfl) (hK.at bR (B32 fun _ => 0) 22 (.tail _ (.tail _ (.tail _ (.head _))))) (B32_le _ _) (B32_info _) (B32_one _) (by rfl) ?_)
    exact bodyPost_ret (results_own Tryz.results74 _ _ bR (B32 (bdig y)) _ (by rfl) (own_setCells (hK.at bR (B32 fun _ => 0) 22 (.tail _ (.tail _ (.tail _ (.head _))))) (B32_sizes _ _)) Tryz.underlying22 rfl (B32_info _)) rfl ⟨by rw [He.out], Below.setCells _ _ _ _ le_bR.out hK.2⟩
  · have He : Hid (y + HH * (x % 2) = y + HH) := by show _ = _; rw [hb, Nat.mul_one]
    rw [hb] at hand
    clear hb
    go_upto_region 5 with fail
    clear cX hand
    have cB := (hK.at b9 (B32 (bdig y)) 22 (.head _)).cell (B32_at (bdig y) 31 (by decide))
    have fB := (hK.at b9 (B32 (bdig y)) 22 (.head _)).frozen 31
    have hor := or_top hyH.out
    obtain ⟨u, Hu⟩ : ∃ u, Hid (bdig y 31 + 128 = u) := ⟨_, rfl⟩
    rw [Hu.out] at hor
    have hK := Kp.setCell (i := 31) (v := .int .u8 (u : Int)) hK (by simp only [List.forall_mem_cons, List.not_mem_nil, false_implies, implies_true, and_true]; exact ⟨ne_g7_b9.out, ne_g6_b9.out, ne_bR_b9.out⟩) le_b9.out
    rw [B32_set _ 31 _ (by decide), ← Hu.out, B32_top hyH.out, Hu.out] at hK
    generalize bdig y 31 = d31 at *
    go_upto_region 6 with fail
    generalize V10.setCell ⟨b9, 31, none⟩ (.int .u8 (u : Int)) = VV at *
    go_wp2_with (first
      | refine wpList_load_own (by rfl) 22 (.tmp 6) (by rfl) b9 (by rfl) (B32 (bdig (y + HH))) _ (hK.at b9 (B32 (bdig (y + HH))) 22 (.head _)) Tryz.underlying22 (by rfl) (B32_info _) ?_
      | refine wpList_store_own (by rfl) 22 (.tmp 2) (.tmp 28) (by rfl) bR 0 (B32 (bdig (y + HH))) (by rfl) (by rfl) (hK.at bR (B32 fun _ => 0) 22 (.tail _ (.tail _ (.tail _ (.head _))))) (B32_le _ _) (B32_info _) (B32_one _) (by rfl) ?_)
    exact bodyPost_ret (results_own Tryz.results74 _ _ bR (B32 (bdig (y + HH))) _ (by rfl) (own_setCells (hK.at bR (B32 fun _ => 0) 22 (.tail _ (.tail _ (.tail _ (.head _))))) (B32_sizes _ _)) Tryz.underlying22 rfl (B32_info _)) rfl ⟨by rw [He.out], Below.setCells _ _ _ _ le_bR.out hK.2⟩
theorem encode_any (r : N4) (hr : r.ok) (w : World) : Calls Tryz.prog 74 #[.agg (PA r)] w fun e w' => e = .returned (.agg (B32 (bdig (enc4 r)))) ∧ Below w.heap.size w w' :=
  encode_nat hr.x hr.y hr.z w
end Go.Proofs.YtgibllaifnnfkaaGreatDoor
