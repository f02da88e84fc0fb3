/- The program's verifying. -/
import Derived.Test.YtgibllaifnnfkaaDoorSB1
import Derived.Test.YtgibllaifnnfkaaDoorRG
namespace Go.Proofs.YtgibllaifnnfkaaDoor
open Go Go.RowKit
set_option maxRecDepth 100000 in
set_option maxHeartbeats 600000 in
theorem verify_gen {T : World → Prop} (F : Low T) {p R S k t : Nat} {f g : Nat → Nat} {e1 e2 : Int} {b0 v0 v : Bool} {ta : Option Addr} {tc : Nat} {m : List Int} (lR : Hid (R < R256)) (lS : Hid (S < R256)) (Hk : Hid (dn (by32 R ++ (by32 p ++ m)) % LL = k)) (hS : Hid (decide (S < LL) = b0))
    (hM : Hid (∀ w, T w → Calls Tryd.prog 23 #[.agg (B32 (bdig k)), .agg (B32 (bdig p))] w fun x w' => x = .returned (.tuple #[.agg (B32 f), .int .i64 e1]) ∧ Below w.heap.size w w')) (hA : Hid (e1 = 0 → (∀ w, T w → Calls Tryd.prog 24 #[.agg (B32 (bdig R)), .agg (B32 f)] w fun x w' => x = .returned (.tuple #[.agg (B32 g), .int .i64 e2]) ∧ Below w.heap.size w w')))
    (Ht : Hid (enc (Pt.times S BP) = t)) (heq : ∀ w, (Op.equalIn 10000 22 (.agg (B32 g)) (.agg (B32 (bdig t)))).run Tryd.prog w = .ok v0 w)
    (h0 : Hid (b0 = false → v = false)) (h1 : Hid ((e1 = 1 ∧ v = false) ∨ (e1 = 0 ∧ ((e2 = 1 ∧ v = false) ∨ (e2 = 0 ∧ (b0 = true → v0 = v)))))) (hl : m.length ≤ 1000) (w : World) (hT : T w) (hm : Txt w ta tc m) : Calls Tryd.prog 10 #[.agg (B32 (bdig p)), .slice ta m.length tc, .agg (B64 (bdig (two R S)))] w fun x w' => x = .returned (.bool v) ∧ Below w.heap.size w w' := by
  have hz := (zero_of_info zeroB32).1
  go_enter Tryd.func10, Tryd.ntmps10
  go_upto_region 1 with fail
  have hK := ((Kp.nil w).alloc (B32 (bdig p)) 22).alloc (B64 (bdig (two R S))) 24
  rw [World.size_alloc] at hK
  generalize (w.alloc (.cells (B32 (bdig p)) 22)).alloc (.cells (B64 (bdig (two R S))) 24) = W at *
  obtain ⟨bA, HbA⟩ : ∃ b, Hid (w.heap.size = b) := ⟨_, rfl⟩
  obtain ⟨bS, HbS⟩ : ∃ b, Hid (bA + 1 = b) := ⟨_, rfl⟩
  have le_bA : Hid (w.heap.size ≤ bA) := by show _ ≤ _; have := HbA.out; omega
  have le_bS : Hid (w.heap.size ≤ bS) := by show _ ≤ _; have := HbA.out; have := HbS.out; omega
  have ne_bA_bS : Hid (bA ≠ bS) := by show _ ≠ _; have := HbS.out; omega
  rw [HbA.out, HbS.out] at hK ⊢
  refine wp_region_lv 46 (fun _ => [(bS, B64 (bdig (two R S)), 24), (bA, B32 (bdig p), 22)]) [.v (.slice (some ⟨bS, 0, none⟩) 32 64), .v (.pointer (some ⟨bS, 0, none⟩)), .v (.agg (B32 (bdig R))), .v (.slice (some ⟨bS, 32, none⟩) 32 32), .v (.pointer (some ⟨bS, 32, none⟩)), .v (.agg (B32 (bdig S))), .mk (B32 fun _ => 0) (B32 (bdig R)) 22 8, .mk (B32 fun _ => 0) (B32 (bdig S)) 22 9, .o, .o] hK (by kernel_rfl) (by kernel_rfl) (by kernel_rfl) (by rfl) ?_ ?_
  · exact .c (.p1 5 (.pointer (some ⟨bS, 0, none⟩))) <| .c (.p1 12 (.slice (some ⟨bS, 0, none⟩) 32 64)) <| .c (.x [(13, .pointer (some ⟨bS, 0, none⟩))] fun _ _ _ _ _ hfx hkx hx => wp_load_mid 22 (.tmp 13) rfl bS 0 (hfx _ (.head _)) (B32 (bdig R)).toList _ (B64_lo2 lR.out (hkx.at bS (B64 (bdig (two R S))) 24 (.head _))) Tryd.underlying22 rfl (B32_len7 _) (hx _ _ rfl (Below.refl _ _))) <| .c (.p1 5 (.pointer (some ⟨bS, 0, none⟩))) <| .c (.p1 15 (.slice (some ⟨bS, 32, none⟩) 32 32)) <| .c (.x [(16, .pointer (some ⟨bS, 32, none⟩))] fun _ _ _ _ _ hfx hkx hx => wp_load_mid 22 (.tmp 16) rfl bS 32 (hfx _ (.head _)) (B32 (bdig S)).toList _ (B64_hi2 lR.out (hkx.at bS (B64 (bdig (two R S))) 24 (.head _))) Tryd.underlying22 rfl (B32_len7 _) (hx _ _ rfl (Below.refl _ _))) <| .c (.al hz) <| .c (.al hz) <| .c (.st 6 (B32_info _) (B32_one _)) <| .c (.st 7 (B32_info _) (B32_one _)) .nil
  intro vs V1 hJ hf
  obtain ⟨g2, hgg2⟩ := hf 6 _ _ rfl rfl
  obtain ⟨le0, apg2, owng2⟩ := hJ.got 6 hgg2
  have le_g2 := show Hid _ from le0
  clear le0
  obtain ⟨g3, hgg3⟩ := hf 7 _ _ rfl rfl
  obtain ⟨le0, apg3, owng3⟩ := hJ.got 7 hgg3
  have le_g3 := show Hid _ from le0
  clear le0
  have ne_g2_g3 := hJ.apart 6 7 hgg2 hgg3
  have ne_bS_g2 : Hid (bS ≠ g2) := apg2 (bS, B64 (bdig (two R S)), 24) (.head _)
  have ne_bA_g2 : Hid (bA ≠ g2) := apg2 (bA, B32 (bdig p), 22) (.tail _ (.head _))
  have ne_bS_g3 : Hid (bS ≠ g3) := apg3 (bS, B64 (bdig (two R S)), 24) (.head _)
  have ne_bA_g3 : Hid (bA ≠ g3) := apg3 (bA, B32 (bdig p), 22) (.tail _ (.head _))
  have hK : Kp [(g3, B32 (bdig S), 22), (g2, B32 (bdig R), 22), (bS, B64 (bdig (two R S)), 24), (bA, B32 (bdig p), 22)] w V1 := ((hJ.1.cons owng2).cons owng3)
  simp only [putL, Lv.val, Nat.zero_add, Nat.reduceAdd, hgg2, hgg3, Act.put, List.setIfInBounds_toArray, List.set_cons_succ, List.set_cons_zero]
  clear hJ hf hgg2 hgg3 apg2 apg3 owng2 owng3
  go_wp2_with (refine wpList_load_own (by rfl) 22 (.tmp 8) (by rfl) g3 (by rfl) (B32 (bdig S)) _ (hK.at g3 (B32 (bdig S)) 22 (.head _)) Tryd.underlying22 (by rfl) (B32_info _) ?_)
  refine (F.scheckA lS.out hS.out _ (F.keep _ _ hT hK.2)).mono ?_
  rintro e V4 ⟨rfl, bw⟩
  have hK := hK.below bw
  clear bw
  cases b0
  · go_wp2_with fail
    go_ret
    exact ⟨by first | rfl | (rw [h0.out (by simp)]; rfl), hK.2⟩
  go_upto_region 4 with fail
  refine wp_region_lv 46 (fun _ => [(g3, B32 (bdig S), 22), (g2, B32 (bdig R), 22), (bS, B64 (bdig (two R S)), 24), (bA, B32 (bdig p), 22)]) [.v (.agg (B32 (bdig R))), .v (.agg (B32 (bdig p))), .v (.slice ta m.length tc), .v (.agg (B32 (bdig k))), .v (.agg (B32 (bdig p))), .v (.tuple #[.agg (B32 f), .int .i64 (e1)]), .v (.tuple #[.agg (B32 f), .int .i64 (e1)]), .v (.agg (B32 f)), .v (.int .i64 (e1)), .mk (B32 fun _ => 0) (B32 f) 22 10, .o, .v (.int .i64 (e1))] hK (by kernel_rfl) (by kernel_rfl) (by kernel_rfl) (by rfl) ?_ ?_
  · exact .c (.ld g2 (fun _ => .tail _ (.head _)) Tryd.underlying22 rfl (B32_info _)) <| .c (.ld bA (fun _ => .tail _ (.tail _ (.tail _ (.head _)))) Tryd.underlying22 rfl (B32_info _)) <| .c (.p1 1 (.slice ta m.length tc)) <| .c (.ca fun _ _ hkx => bound_at F Hk hl _ (F.keep _ _ hT hkx.2) (hm.below hkx.2)) <| .c (.ld bA (fun _ => .tail _ (.tail _ (.tail _ (.head _)))) Tryd.underlying22 rfl (B32_info _)) <| .c (.ca fun _ _ hkx => hM.out _ (F.keep _ _ hT hkx.2)) <| .c (.p1 27 (.tuple #[.agg (B32 f), .int .i64 (e1)])) <| .c (.p1 21 (.tuple #[.agg (B32 f), .int .i64 (e1)])) <| .c (.p1 21 (.tuple #[.agg (B32 f), .int .i64 (e1)])) <| .c (.al hz) <| .c (.st 9 (B32_info _) (B32_one _)) <| .c (.p1 29 (.int .i64 (e1))) .nil
  intro vs V5 hJ hf
  obtain ⟨g6, hgg6⟩ := hf 9 _ _ rfl rfl
  obtain ⟨le0, apg6, owng6⟩ := hJ.got 9 hgg6
  have le_g6 := show Hid _ from le0
  clear le0
  have ne_g3_g6 : Hid (g3 ≠ g6) := apg6 (g3, B32 (bdig S), 22) (.head _)
  have ne_g2_g6 : Hid (g2 ≠ g6) := apg6 (g2, B32 (bdig R), 22) (.tail _ (.head _))
  have ne_bS_g6 : Hid (bS ≠ g6) := apg6 (bS, B64 (bdig (two R S)), 24) (.tail _ (.tail _ (.head _)))
  have ne_bA_g6 : Hid (bA ≠ g6) := apg6 (bA, B32 (bdig p), 22) (.tail _ (.tail _ (.tail _ (.head _))))
  have hK : Kp [(g6, B32 f, 22), (g3, B32 (bdig S), 22), (g2, B32 (bdig R), 22), (bS, B64 (bdig (two R S)), 24), (bA, B32 (bdig p), 22)] w V5 := (hJ.1.cons owng6)
  simp only [putL, Lv.val, Nat.zero_add, Nat.reduceAdd, hgg6, Act.put, List.setIfInBounds_toArray, List.set_cons_succ, List.set_cons_zero]
  clear hJ hf hgg6 apg6 owng6
  rcases h1.out with ⟨rfl, hv⟩ | ⟨rfl, h2⟩
  · replace hv := show Hid _ from hv
    go_wp2
    go_ret
    exact ⟨by first | rfl | (rw [hv.out]; rfl), hK.2⟩
  replace h2 := show Hid _ from h2
  go_upto_region 7 with fail
  go_wp2_with (first
    | refine wpList_load_own (by rfl) 22 (.tmp 7) (by rfl) g2 (by rfl) (B32 (bdig R)) _ (hK.at g2 (B32 (bdig R)) 22 (.tail _ (.tail _ (.head _)))) Tryd.underlying22 (by rfl) (B32_info _) ?_
    | refine wpList_load_own (by rfl) 22 (.tmp 9) (by rfl) g6 (by rfl) (B32 f) _ (hK.at g6 (B32 f) 22 (.head _)) Tryd.underlying22 (by rfl) (B32_info _) ?_)
  refine (hA.out (by simp) _ (F.keep _ _ hT hK.2)).mono ?_
  rintro e V7 ⟨rfl, bw⟩
  have hK := hK.below bw
  clear bw
  go_upto_region 8 with (refine wpList_store_new (by rfl) 22 (.tmp 11) (.tmp 36) (by rfl) _ (B32 g) (by rfl) (by rfl) (B32_info _) (B32_sizes _ _) (B32_one _) (by rfl) ?_)
  have lt_g6 := (hK.at g6 (B32 f) 22 (.head _)).lt
  have lt_g3 := (hK.at g3 (B32 (bdig S)) 22 (.tail _ (.head _))).lt
  have lt_g2 := (hK.at g2 (B32 (bdig R)) 22 (.tail _ (.tail _ (.head _)))).lt
  have lt_bS := (hK.at bS (B64 (bdig (two R S))) 24 (.tail _ (.tail _ (.tail _ (.head _))))).lt
  have lt_bA := (hK.at bA (B32 (bdig p)) 22 (.tail _ (.tail _ (.tail _ (.tail _ (.head _)))))).lt
  have le_b8 := show Hid _ from hK.2.size
  have hK := hK.alloc (B32 g) 22
  generalize V7.alloc (.cells (B32 g) 22) = V9 at *
  obtain ⟨b8, Hb8⟩ : ∃ b, Hid (V7.heap.size = b) := ⟨_, rfl⟩
  have ne_g6_b8 : Hid (g6 ≠ b8) := by show _ ≠ _; rw [← Hb8.out]; exact Nat.ne_of_lt lt_g6
  have ne_g3_b8 : Hid (g3 ≠ b8) := by show _ ≠ _; rw [← Hb8.out]; exact Nat.ne_of_lt lt_g3
  have ne_g2_b8 : Hid (g2 ≠ b8) := by show _ ≠ _; rw [← Hb8.out]; exact Nat.ne_of_lt lt_g2
  have ne_bS_b8 : Hid (bS ≠ b8) := by show _ ≠ _; rw [← Hb8.out]; exact Nat.ne_of_lt lt_bS
  have ne_bA_b8 : Hid (bA ≠ b8) := by show _ ≠ _; rw [← Hb8.out]; exact Nat.ne_of_lt lt_bA
  have le_b8 : Hid (w.heap.size ≤ b8) := by show _ ≤ _; rw [← Hb8.out]; exact le_b8.out
  rw [Hb8.out] at hK ⊢
  clear lt_g6 lt_g3 lt_g2 lt_bS lt_bA
  rcases h2.out with ⟨rfl, hv⟩ | ⟨rfl, hv⟩
  · replace hv := show Hid _ from hv
    refine wp_region_lv 46 (fun _ => [(b8, B32 g, 22), (g6, B32 f, 22), (g3, B32 (bdig S), 22), (g2, B32 (bdig R), 22), (bS, B64 (bdig (two R S)), 24), (bA, B32 (bdig p), 22)]) [.v (.int .i64 (1)), .v (.bool false), .v (.bool false), .v undef, .v undef, .v undef, .v undef, .v (.bool false), .v (.bool false)] hK (by kernel_rfl) (by kernel_rfl) (by kernel_rfl) (by rfl) ?_ ?_
    · exact .c (.p1 10 (.int .i64 (1))) <| .c (.p1 38 (.int .i64 (1))) <| .c (.p1 39 (.bool false)) <| .c .ps <| .c .ps <| .c .ps <| .c .ps <| .c (.p2 40 (.bool false) 44 (undef)) <| .c (.p1 45 (.bool false)) .nil
    intro _ V10 hJ _
    have hK : Kp [(b8, B32 g, 22), (g6, B32 f, 22), (g3, B32 (bdig S), 22), (g2, B32 (bdig R), 22), (bS, B64 (bdig (two R S)), 24), (bA, B32 (bdig p), 22)] w V10 := hJ.1
    clear hJ
    simp only [putL, Lv.val, Act.put, List.setIfInBounds_toArray, List.set_cons_succ, List.set_cons_zero]
    go_wp2
    go_ret
    exact ⟨by first | rfl | (rw [hv.out]; rfl), hK.2⟩
  · replace hv := show Hid _ from hv
    refine wp_region_lv 46 (fun _ => [(b8, B32 g, 22), (g6, B32 f, 22), (g3, B32 (bdig S), 22), (g2, B32 (bdig R), 22), (bS, B64 (bdig (two R S)), 24), (bA, B32 (bdig p), 22)]) [.v (.int .i64 (0)), .v (.bool true), .v (.bool true), .v (.agg (B32 g)), .v (.agg (B32 (bdig S))), .v (.agg (B32 (bdig t))), .v (.bool v0), .v (.bool v0), .v (.bool v0)] hK (by kernel_rfl) (by kernel_rfl) (by kernel_rfl) (by rfl) ?_ ?_
    · exact .c (.p1 10 (.int .i64 (0))) <| .c (.p1 38 (.int .i64 (0))) <| .c (.p1 39 (.bool true)) <| .c (.ld b8 (fun _ => .head _) Tryd.underlying22 rfl (B32_info _)) <| .c (.ld g3 (fun _ => .tail _ (.tail _ (.head _))) Tryd.underlying22 rfl (B32_info _)) <| .c (.ca fun _ _ hkx => F.baseA lS.out Ht.out _ (F.keep _ _ hT hkx.2)) <| .c (.p2 41 (.agg (B32 g)) 43 (.agg (B32 (bdig t)))) <| .c (.p2 40 (.bool true) 44 (.bool v0)) <| .c (.p1 45 (.bool v0)) .nil
    intro _ V10 hJ _
    have hK : Kp [(b8, B32 g, 22), (g6, B32 f, 22), (g3, B32 (bdig S), 22), (g2, B32 (bdig R), 22), (bS, B64 (bdig (two R S)), 24), (bA, B32 (bdig p), 22)] w V10 := hJ.1
    clear hJ
    simp only [putL, Lv.val, Act.put, List.setIfInBounds_toArray, List.set_cons_succ, List.set_cons_zero]
    go_wp2
    go_ret
    exact ⟨by first | rfl | (rw [hv.out (by simp)]; rfl), hK.2⟩
end Go.Proofs.YtgibllaifnnfkaaDoor
