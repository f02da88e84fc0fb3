/- The program's open kind: its public key, its signature. -/
import Derived.Test.YtgibllaifnnfkaaDoorUV1
import Derived.Test.YtgibllaifnnfkaaDoorUD
import Derived.Test.YtgibllaifnnfkaaDoorRG
namespace Go.Proofs.YtgibllaifnnfkaaDoor
open Go Go.RowKit
theorem osum_as {x : Int} (hx : 0 ≤ x ∧ x < 256) {p y : Nat} {ta : Option Addr} {tc : Nat} {m : List Int} (hy : hn (x :: (by32 p ++ m)) = y) (hl : m.length ≤ 1000) (w : World) (hT : J.Tabs w) (hm : Txt w ta tc m) :
    Calls Tryd.prog 27 #[.int .u8 x, .agg (B32 (bdig p)), .slice ta m.length tc] w fun e w' => e = .returned (.agg (B32 (bdig y))) ∧ Below w.heap.size w w' := by
  subst hy
  exact osum_is hx hl w hT hm
set_option maxRecDepth 100000 in
set_option maxHeartbeats 400000 in
theorem opublic_is (n : Nat) (w : World) (hT : J.Tabs w) : Calls Tryd.prog 14 #[.agg (B32 (bdig n))] w fun e w' => e = .returned (.agg (B32 (bdig (opub n)))) ∧ Below w.heap.size w w' := by
  have hz := (zero_of_info zeroB32).1
  obtain ⟨y, Hy⟩ : ∃ y, Hid (opub n = y) := ⟨_, rfl⟩
  have Hs : Hid (hn (1 :: (by32 n ++ [])) = y) := by show _ = _; rw [List.append_nil]; exact Hy.out
  go_enter Tryd.func14, Tryd.ntmps14
  go_upto_region 1 with fail
  have hK := ((Kp.nil w).alloc (B32 (bdig n)) 22).alloc (B32 fun _ => 0) 22
  rw [World.size_alloc] at hK
  generalize (w.alloc (.cells (B32 (bdig n)) 22)).alloc (.cells (B32 fun _ => 0) 22) = W at *
  obtain ⟨bA, HbA⟩ : ∃ b, Hid (w.heap.size = b) := ⟨_, rfl⟩
  obtain ⟨bR, HbR⟩ : ∃ b, Hid (bA + 1 = b) := ⟨_, rfl⟩
  have le_bR : Hid (w.heap.size ≤ bR) := by show _ ≤ _; have := HbA.out; have := HbR.out; omega
  rw [HbA.out, HbR.out] at hK ⊢
  go_wp2_with (refine wpList_load_own (by rfl) 22 (.tmp 1) (by rfl) bA (by rfl) (B32 (bdig n)) _ (hK.at bA (B32 (bdig n)) 22 (.tail _ (.head _))) Tryd.underlying22 (by rfl) (B32_info _) ?_)
  refine (osum_as (x := 1) (by decide) Hs.out (by decide) _ (hT.below hK.2) (txt_nil _)).mono ?_
  rintro e V5 ⟨rfl, bw⟩
  have hK := hK.below bw
  clear bw
  go_wp2_with (refine wpList_store_own (op := { dst := none, op := _, type := _, pos := _, after := _, guard := _ }) rfl 22 (.tmp 2) (.tmp 4) rfl bR 0 (B32 (bdig y)) (by rfl) (by rfl) (hK.at bR (B32 fun _ => 0) 22 (.head _)) (B32_le _ _) (B32_info _) (B32_one _) (by rfl) ?_)
  exact bodyPost_ret (results_own Tryd.results14 _ _ bR (B32 (bdig y)) _ (by rfl) (own_setCells (hK.at bR (B32 fun _ => 0) 22 (.head _)) (B32_sizes _ _)) Tryd.underlying22 rfl (B32_info _)) rfl ⟨by rw [Hy.out], Below.setCells _ _ _ _ le_bR.out hK.2⟩
set_option maxRecDepth 100000 in
set_option maxHeartbeats 400000 in
theorem osig_is {p : Nat} {ta : Option Addr} {tc : Nat} {m : List Int} (hl : m.length ≤ 1000) (w : World) (hT : J.Tabs w) (hm : Txt w ta tc m) :
    Calls Tryd.prog 15 #[.agg (B32 (bdig p)), .slice ta m.length tc] w fun e w' => e = .returned (.agg (B64 (bdig (two (oR p m) (oS p m))))) ∧ Below w.heap.size w w' := by
  have hz := (zero_of_info zeroB32).1
  have hz64 := (zero_of_info zeroB64).1
  obtain ⟨R, HR⟩ : ∃ y, Hid (oR p m = y) := ⟨_, rfl⟩
  obtain ⟨S, HS⟩ : ∃ y, Hid (oS p m = y) := ⟨_, rfl⟩
  have lR : Hid (R < R256) := by show _ < _; rw [← HR.out]; exact oR_lt _ _
  have Hr : Hid (hn (2 :: (by32 p ++ m)) = R) := HR
  have Hs : Hid (hn (3 :: (by32 p ++ m)) = S) := HS
  have hl := show Hid _ from hl
  rw [HR.out, HS.out]
  go_enter Tryd.func15, Tryd.ntmps15
  go_upto_region 1 with fail
  have hK := ((Kp.nil w).alloc (B32 (bdig p)) 22).alloc (B64 fun _ => 0) 24
  rw [World.size_alloc] at hK
  generalize (w.alloc (.cells (B32 (bdig p)) 22)).alloc (.cells (B64 fun _ => 0) 24) = W at *
  obtain ⟨bA, HbA⟩ : ∃ b, Hid (w.heap.size = b) := ⟨_, rfl⟩
  obtain ⟨bR, HbR⟩ : ∃ b, Hid (bA + 1 = b) := ⟨_, rfl⟩
  have le_bR : Hid (w.heap.size ≤ bR) := by show _ ≤ _; have := HbA.out; have := HbR.out; omega
  rw [HbA.out, HbR.out] at hK ⊢
  refine wp_region_lv 21 (fun _ => [(bR, B64 fun _ => 0, 24), (bA, B32 (bdig p), 22)]) [.v (.agg (B32 (bdig p))), .v (.slice ta m.length tc), .v (.agg (B32 (bdig R))), .v (.agg (B32 (bdig p))), .v (.slice ta m.length tc), .v (.agg (B32 (bdig S))), .mk (B32 fun _ => 0) (B32 (bdig R)) 22 8, .mk (B32 fun _ => 0) (B32 (bdig S)) 22 9, .o, .o] hK (by kernel_rfl) (by kernel_rfl) (by kernel_rfl) (by rfl) (.c (.ld bA (fun _ => .tail _ (.head _)) Tryd.underlying22 rfl (B32_info _)) <| .c (.p1 1 (.slice ta m.length tc)) <| .c (.ca fun _ w hk => osum_as (x := 2) (by decide) Hr.out hl.out w (hT.below hk.2) (hm.below hk.2)) <| .c (.ld bA (fun _ => .tail _ (.head _)) Tryd.underlying22 rfl (B32_info _)) <| .c (.p1 1 (.slice ta m.length tc)) <| .c (.ca fun _ w hk => osum_as (x := 3) (by decide) Hs.out hl.out w (hT.below hk.2) (hm.below hk.2)) <| .c (.al hz) <| .c (.al hz) <| .c (.st 6 (B32_info _) (B32_one _)) <| .c (.st 7 (B32_info _) (B32_one _)) .nil) ?_
  intro vs V1 hJ hf
  obtain ⟨g2, eg2⟩ := hf 6 _ _ rfl rfl
  obtain ⟨le_g2, ap_g2, o_g2⟩ := hJ.got 6 eg2
  obtain ⟨g3, eg3⟩ := hf 7 _ _ rfl rfl
  obtain ⟨le_g3, ap_g3, o_g3⟩ := hJ.got 7 eg3
  have ne_g2_g3 := hJ.apart 6 7 eg2 eg3
  have ne_bR_g2 : Hid (bR ≠ g2) := ap_g2 (bR, B64 fun _ => 0, 24) (.head _)
  have ne_bR_g3 : Hid (bR ≠ g3) := ap_g3 (bR, B64 fun _ => 0, 24) (.head _)
  have hK : Kp [(g3, B32 (bdig S), 22), (g2, B32 (bdig R), 22), (bR, B64 fun _ => 0, 24), (bA, B32 (bdig p), 22)] w V1 := ((hJ.1.cons o_g2).cons o_g3)
  replace hK : Kp [(g3, B32 (bdig S), 22), (g2, B32 (bdig R), 22), (bR, B64 fun _ => 0, 24)] w V1 := hK.sub fun p hp => by simp at hp ⊢; rcases hp with h | h | h <;> simp [h]
  simp only [putL, Lv.val, Nat.zero_add, Nat.reduceAdd, eg2, eg3, Act.put, List.setIfInBounds_toArray, List.set_cons_succ, List.set_cons_zero]
  clear hJ hf eg2 eg3 ap_g2 ap_g3 o_g2 o_g3
  clear vs
  go_upto_region 3 with fail
  have lt_g3 := (hK.at g3 (B32 (bdig S)) 22 (.head _)).lt
  have lt_g2 := (hK.at g2 (B32 (bdig R)) 22 (.tail _ (.head _))).lt
  have lt_bR := (hK.at bR (B64 fun _ => 0) 24 (.tail _ (.tail _ (.head _)))).lt
  have le_b4 := show Hid _ from hK.2.size
  have hK := hK.alloc (B64 fun _ => 0) 24
  generalize V1.alloc (.cells (B64 fun _ => 0) 24) = V2 at *
  obtain ⟨b4, Hb4⟩ : ∃ b, Hid (V1.heap.size = b) := ⟨_, rfl⟩
  have ne_g3_b4 : Hid (g3 ≠ b4) := by show _ ≠ _; rw [← Hb4.out]; exact Nat.ne_of_lt lt_g3
  have ne_g2_b4 : Hid (g2 ≠ b4) := by show _ ≠ _; rw [← Hb4.out]; exact Nat.ne_of_lt lt_g2
  have ne_bR_b4 : Hid (bR ≠ b4) := by show _ ≠ _; rw [← Hb4.out]; exact Nat.ne_of_lt lt_bR
  have le_b4 : Hid (w.heap.size ≤ b4) := by show _ ≤ _; rw [← Hb4.out]; exact le_b4.out
  rw [Hb4.out] at hK ⊢
  clear lt_g3 lt_g2 lt_bR
  refine wp_region_lv 21 (fun L => [(b4, if L 2 = true then B64 (bdig (two R 0)) else B64 fun _ => 0, 24), (g3, B32 (bdig S), 22), (g2, B32 (bdig R), 22), (bR, B64 fun _ => 0, 24)]) [.v (.slice (some ⟨b4, 0, none⟩) 32 64), .v (.slice (some ⟨g2, 0, none⟩) 32 32), .v (.int .i64 (32))] hK (by kernel_rfl) (by kernel_rfl) (by kernel_rfl) (by rfl) ?_ ?_
  · exact .c (.p1 7 (.pointer (some ⟨b4, 0, none⟩))) <| .c (.p1 5 (.pointer (some ⟨g2, 0, none⟩))) <| .c (.xr [(14, .slice (some ⟨b4, 0, none⟩) 32 64), (15, .slice (some ⟨g2, 0, none⟩) 32 32)] b4 (.hr (fun _ => rfl) (fun _ => rfl) (fun _ => fc ne_g3_b4 <| fc ne_g2_b4 <| fc ne_bR_b4 <| fn)) le_b4.out fun _ ac wc _ _ hfx _ hkx hjo hx => by have f31 := hfx _ (.head _); have f32 := hfx _ (.tail _ (.head _)); have hrg : wc.rangeAt g2 0 (B32 (bdig R)).toList := (hkx.at g2 (B32 (bdig R)) 22 (.tail _ (.tail _ (.head _)))).range; refine wp_copy_at (.tmp 14) (.tmp 15) 23 23 rfl 5 Tryd.underlying23 infoU8s b4 0 32 64 g2 0 32 32 f31 f32 hjo _ hrg (by rw [B32_len0]; rfl) (by rw [B32_len0, B64_size]; decide) (B32_ones _) ?_; rw [join_lo lR.out, B32_len0]; exact hx _ rfl) .nil
  intro _ V3 hJ _
  have hK : Kp [(b4, B64 (bdig (two R 0)), 24), (g3, B32 (bdig S), 22), (g2, B32 (bdig R), 22), (bR, B64 fun _ => 0, 24)] w V3 := hJ.1
  clear hJ
  simp only [putL, Lv.val, Act.put, List.setIfInBounds_toArray, List.set_cons_succ, List.set_cons_zero]
  go_upto_region 4 with fail
  refine wp_region_lv 21 (fun L => [(b4, if L 2 = true then B64 (bdig (two R S)) else B64 (bdig (two R 0)), 24), (g3, B32 (bdig S), 22), (g2, B32 (bdig R), 22), (bR, B64 fun _ => 0, 24)]) [.v (.slice (some ⟨b4, 32, none⟩) 32 32), .v (.slice (some ⟨g3, 0, none⟩) 32 32), .v (.int .i64 (32))] hK (by kernel_rfl) (by kernel_rfl) (by kernel_rfl) (by rfl) ?_ ?_
  · exact .c (.p1 7 (.pointer (some ⟨b4, 0, none⟩))) <| .c (.p1 6 (.pointer (some ⟨g3, 0, none⟩))) <| .c (.xr [(17, .slice (some ⟨b4, 32, none⟩) 32 32), (18, .slice (some ⟨g3, 0, none⟩) 32 32)] b4 (.hr (fun _ => rfl) (fun _ => rfl) (fun _ => fc ne_g3_b4 <| fc ne_g2_b4 <| fc ne_bR_b4 <| fn)) le_b4.out fun _ ac wc _ _ hfx _ hkx hjo hx => by have f34 := hfx _ (.head _); have f35 := hfx _ (.tail _ (.head _)); have hrg : wc.rangeAt g3 0 (B32 (bdig S)).toList := (hkx.at g3 (B32 (bdig S)) 22 (.tail _ (.head _))).range; refine wp_copy_at (.tmp 17) (.tmp 18) 23 23 rfl 5 Tryd.underlying23 infoU8s b4 32 32 32 g3 0 32 32 f34 f35 hjo _ hrg (by rw [B32_len0]; rfl) (by rw [B32_len0, B64_size]; decide) (B32_ones _) ?_; rw [join_hi lR.out S, B32_len0]; exact hx _ rfl) .nil
  intro _ V4 hJ _
  have hK : Kp [(b4, B64 (bdig (two R S)), 24), (g3, B32 (bdig S), 22), (g2, B32 (bdig R), 22), (bR, B64 fun _ => 0, 24)] w V4 := hJ.1
  clear hJ
  simp only [putL, Lv.val, Act.put, List.setIfInBounds_toArray, List.set_cons_succ, List.set_cons_zero]
  go_wp2_with (first
    | refine wpList_load_own (by rfl) 24 (.tmp 7) (by rfl) b4 (by rfl) (B64 (bdig (two R S))) _ (hK.at b4 (B64 (bdig (two R S))) 24 (.head _)) Tryd.underlying24 (by rfl) (B64_info _) ?_
    | refine wpList_store_own (op := { dst := none, op := _, type := _, pos := _, after := _, guard := _ }) rfl 24 (.tmp 4) (.tmp 20) rfl bR 0 (B64 (bdig (two R S))) (by rfl) (by rfl) (hK.at bR (B64 fun _ => 0) 24 (.tail _ (.tail _ (.tail _ (.head _))))) (B64_le _ _) (B64_info _) (B64_one _) (by rfl) ?_)
  exact bodyPost_ret (results_own Tryd.results15 _ _ bR (B64 (bdig (two R S))) _ (by rfl) (own_setCells (hK.at bR (B64 fun _ => 0) 24 (.tail _ (.tail _ (.tail _ (.head _))))) (B64_sizes _ _)) Tryd.underlying24 rfl (B64_info _)) rfl ⟨rfl, Below.setCells _ _ _ _ le_bR.out hK.2⟩
end Go.Proofs.YtgibllaifnnfkaaDoor
