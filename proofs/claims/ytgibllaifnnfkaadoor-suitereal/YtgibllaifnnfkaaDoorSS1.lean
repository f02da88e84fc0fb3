/- The program's signature. -/
import Derived.Test.YtgibllaifnnfkaaDoorSH1
import Derived.Test.YtgibllaifnnfkaaDoorSB1
import Derived.Test.YtgibllaifnnfkaaDoorRG
namespace Go.Proofs.YtgibllaifnnfkaaDoor
open Go Go.RowKit
set_option maxRecDepth 100000 in
set_option maxHeartbeats 400000 in
theorem sign_at {T : World → Prop} (F : Low T) {n lo hi c y r R k S : Nat} {ta : Option Addr} {tc : Nat} {m : List Int} (Hd : Hid (dn (by32 n) = two lo hi)) (llo : Hid (lo < R256)) (Hc : Hid (clamp lo = c)) (Hy : Hid (enc (Pt.times c BP) = y)) (Hr : Hid (dn (by32 hi ++ m) % LL = r)) (HR : Hid (enc (Pt.times r BP) = R)) (Hk : Hid (dn (by32 R ++ (by32 y ++ m)) % LL = k)) (HS : Hid ((k * c + r) % LL = S)) (hl : m.length ≤ 1000) (w : World) (hT : T w) (hm : Txt w ta tc m) : Calls Tryd.prog 8 #[.agg (B32 (bdig n)), .slice ta m.length tc] w fun x w' => x = .returned (.agg (B64 (bdig (two R S)))) ∧ Below w.heap.size w w' := by
  have hz := (zero_of_info zeroB32).1
  have hz64 := (zero_of_info zeroB64).1
  have lc : Hid (c < R256) := by show _ < _; rw [← Hc.out]; exact clamp_lt _
  have lr : Hid (r < R256) := by show _ < _; rw [← Hr.out]; exact lt_of_modL
  have lk : Hid (k < R256) := by show _ < _; rw [← Hk.out]; exact lt_of_modL
  have lR : Hid (R < R256) := by show _ < _; rw [← HR.out, R256_HH]; exact enc_lt _
  obtain ⟨z, Hz⟩ : ∃ z, Hid (dn (by32 hi ++ m) = z) := ⟨_, rfl⟩
  have hzl : Hid (z < R512) := by show _ < _; rw [← Hz.out]; exact dn_lt _
  have hzr : Hid (z % LL = r) := by show _ = _; rw [← Hz.out]; exact Hr.out
  have hfl : Hid ([by32 hi, m].flatten = by32 hi ++ m) := by show _ = _; simp
  have hln : Hid ((by32 hi ++ m).length ≤ 16000000) := by show _ ≤ _; rw [List.length_append, by32_length]; omega
  go_enter Tryd.func8, Tryd.ntmps8
  go_upto_region 1 with fail
  have hK := ((Kp.nil w).alloc (B32 (bdig n)) 22).alloc (B64 fun _ => 0) 24
  rw [World.size_alloc] at hK
  generalize (w.alloc (.cells (B32 (bdig n)) 22)).alloc (.cells (B64 fun _ => 0) 24) = W at *
  obtain ⟨bA, HbA⟩ : ∃ b, Hid (w.heap.size = b) := ⟨_, rfl⟩
  obtain ⟨bR, HbR⟩ : ∃ b, Hid (bA + 1 = b) := ⟨_, rfl⟩
  have le_bA : Hid (w.heap.size ≤ bA) := by show _ ≤ _; have := HbA.out; omega
  have le_bR : Hid (w.heap.size ≤ bR) := by show _ ≤ _; have := HbA.out; have := HbR.out; omega
  have ne_bA_bR : Hid (bA ≠ bR) := by show _ ≠ _; have := HbR.out; omega
  rw [HbA.out, HbR.out] at hK ⊢
  go_wp2_with (refine wpList_load_own (by rfl) 22 (.tmp 2) (by rfl) bA (by rfl) (B32 (bdig n)) _ (hK.at bA (B32 (bdig n)) 22 (.tail _ (.head _))) Tryd.underlying22 (by rfl) (B32_info _) ?_)
  refine (halves_at F Hd llo Hc _ (F.keep _ _ hT hK.2)).mono ?_
  rintro e V1 ⟨rfl, bw⟩
  have hK := hK.below bw
  clear bw
  go_upto_region 2 with ((refine wpList_news2 hK 22 22 5 6 14 15 (by rfl) (by rfl) (by rfl) (by rfl) (by rfl) (by rfl) (by rfl) (by rfl) (by rfl) (by rfl) (by rfl) (by rfl) hz hz (of_decide_eq_true (by rfl)) (of_decide_eq_true (by rfl)) (by decide) (by decide) (by decide) (by decide) (by decide) (by rfl) (by rfl) (B32_sizes _ _) (B32_sizes _ _) (B32_info _) (B32_info _) (B32_one _) (B32_one _) ?_; intro b2 b3 V4 le_b2 le_b3 ne_b2_b3 ap1 ap2 hK))
  have le_b2 := show Hid _ from le_b2
  have le_b3 := show Hid _ from le_b3
  have ne_b2_b3 := show Hid _ from ne_b2_b3
  have ne_bR_b2 : Hid (bR ≠ b2) := ap1 (bR, B64 fun _ => 0, 24) (.head _)
  have ne_bR_b3 : Hid (bR ≠ b3) := ap2 (bR, B64 fun _ => 0, 24) (.head _)
  have ne_bA_b2 : Hid (bA ≠ b2) := ap1 (bA, B32 (bdig n), 22) (.tail _ (.head _))
  have ne_bA_b3 : Hid (bA ≠ b3) := ap2 (bA, B32 (bdig n), 22) (.tail _ (.head _))
  clear ap1 ap2
  go_wp2_with fail
  have hq := rows2 (bytes_own (hK.at b3 (B32 (bdig hi)) 22 (.head _))) (fun h => by cases h) ((hm.below hK.2).1) hm.2
  have hK := hK.below (alloc_below V4 (.cells #[.slice (some ⟨b3, 0, none⟩) 32 32, .slice ta m.length tc] 23))
  refine (F.wsumA hfl.out Hz.out hln.out _ (F.keep _ _ hT hK.2) hq).mono ?_
  rintro e V5 ⟨rfl, bw⟩
  have hK := hK.below bw
  clear bw hq
  go_wp2_with fail
  refine (F.swideA hzl.out hzr.out _ (F.keep _ _ hT hK.2)).mono ?_
  rintro e V6 ⟨rfl, bw⟩
  have hK := hK.below bw
  clear bw
  go_upto_region 3 with (refine wpList_store_new (by rfl) 22 (.tmp 7) (.tmp 20) (by rfl) _ (B32 (bdig r)) (by rfl) (by rfl) (B32_info _) (B32_sizes _ _) (B32_one _) (by rfl) ?_)
  have lt_b3 := (hK.at b3 (B32 (bdig hi)) 22 (.head _)).lt
  have lt_b2 := (hK.at b2 (B32 (bdig c)) 22 (.tail _ (.head _))).lt
  have lt_bR := (hK.at bR (B64 fun _ => 0) 24 (.tail _ (.tail _ (.head _)))).lt
  have lt_bA := (hK.at bA (B32 (bdig n)) 22 (.tail _ (.tail _ (.tail _ (.head _))))).lt
  have le_b7 := show Hid _ from hK.2.size
  have hK := hK.alloc (B32 (bdig r)) 22
  generalize V6.alloc (.cells (B32 (bdig r)) 22) = V8 at *
  obtain ⟨b7, Hb7⟩ : ∃ b, Hid (V6.heap.size = b) := ⟨_, rfl⟩
  have ne_b3_b7 : Hid (b3 ≠ b7) := by show _ ≠ _; rw [← Hb7.out]; exact Nat.ne_of_lt lt_b3
  have ne_b2_b7 : Hid (b2 ≠ b7) := by show _ ≠ _; rw [← Hb7.out]; exact Nat.ne_of_lt lt_b2
  have ne_bR_b7 : Hid (bR ≠ b7) := by show _ ≠ _; rw [← Hb7.out]; exact Nat.ne_of_lt lt_bR
  have ne_bA_b7 : Hid (bA ≠ b7) := by show _ ≠ _; rw [← Hb7.out]; exact Nat.ne_of_lt lt_bA
  have le_b7 : Hid (w.heap.size ≤ b7) := by show _ ≤ _; rw [← Hb7.out]; exact le_b7.out
  rw [Hb7.out] at hK ⊢
  clear lt_b3 lt_b2 lt_bR lt_bA
  go_wp2_with (refine wpList_load_own (by rfl) 22 (.tmp 7) (by rfl) b7 (by rfl) (B32 (bdig r)) _ (hK.at b7 (B32 (bdig r)) 22 (.head _)) Tryd.underlying22 (by rfl) (B32_info _) ?_)
  refine (F.baseA lr.out HR.out _ (F.keep _ _ hT hK.2)).mono ?_
  rintro e V9 ⟨rfl, bw⟩
  have hK := hK.below bw
  clear bw
  go_upto_region 4 with (refine wpList_store_new (by rfl) 22 (.tmp 8) (.tmp 22) (by rfl) _ (B32 (bdig R)) (by rfl) (by rfl) (B32_info _) (B32_sizes _ _) (B32_one _) (by rfl) ?_)
  have lt_b7 := (hK.at b7 (B32 (bdig r)) 22 (.head _)).lt
  have lt_b3 := (hK.at b3 (B32 (bdig hi)) 22 (.tail _ (.head _))).lt
  have lt_b2 := (hK.at b2 (B32 (bdig c)) 22 (.tail _ (.tail _ (.head _)))).lt
  have lt_bR := (hK.at bR (B64 fun _ => 0) 24 (.tail _ (.tail _ (.tail _ (.head _))))).lt
  have lt_bA := (hK.at bA (B32 (bdig n)) 22 (.tail _ (.tail _ (.tail _ (.tail _ (.head _)))))).lt
  have le_b10 := show Hid _ from hK.2.size
  have hK := hK.alloc (B32 (bdig R)) 22
  generalize V9.alloc (.cells (B32 (bdig R)) 22) = V11 at *
  obtain ⟨b10, Hb10⟩ : ∃ b, Hid (V9.heap.size = b) := ⟨_, rfl⟩
  have ne_b7_b10 : Hid (b7 ≠ b10) := by show _ ≠ _; rw [← Hb10.out]; exact Nat.ne_of_lt lt_b7
  have ne_b3_b10 : Hid (b3 ≠ b10) := by show _ ≠ _; rw [← Hb10.out]; exact Nat.ne_of_lt lt_b3
  have ne_b2_b10 : Hid (b2 ≠ b10) := by show _ ≠ _; rw [← Hb10.out]; exact Nat.ne_of_lt lt_b2
  have ne_bR_b10 : Hid (bR ≠ b10) := by show _ ≠ _; rw [← Hb10.out]; exact Nat.ne_of_lt lt_bR
  have ne_bA_b10 : Hid (bA ≠ b10) := by show _ ≠ _; rw [← Hb10.out]; exact Nat.ne_of_lt lt_bA
  have le_b10 : Hid (w.heap.size ≤ b10) := by show _ ≤ _; rw [← Hb10.out]; exact le_b10.out
  rw [Hb10.out] at hK ⊢
  clear lt_b7 lt_b3 lt_b2 lt_bR lt_bA
  refine wp_region_lv 38 (fun _ => [(b10, B32 (bdig R), 22), (b7, B32 (bdig r), 22), (b3, B32 (bdig hi), 22), (b2, B32 (bdig c), 22), (bR, B64 fun _ => 0, 24), (bA, B32 (bdig n), 22)]) [.v (.agg (B32 (bdig R))), .v (.agg (B32 (bdig c))), .v (.agg (B32 (bdig y))), .v (.slice ta m.length tc), .v (.agg (B32 (bdig k))), .v (.agg (B32 (bdig c))), .v (.agg (B32 (bdig r))), .v (.agg (B32 (bdig S))), .mk (B32 fun _ => 0) (B32 (bdig S)) 22 9, .o] hK (by kernel_rfl) (by kernel_rfl) (by kernel_rfl) (by rfl) ?_ ?_
  · exact .c (.ld b10 (fun _ => .head _) Tryd.underlying22 rfl (B32_info _)) <| .c (.ld b2 (fun _ => .tail _ (.tail _ (.tail _ (.head _)))) Tryd.underlying22 rfl (B32_info _)) <| .c (.ca fun _ _ hkx => F.baseA lc.out Hy.out _ (F.keep _ _ hT hkx.2)) <| .c (.p1 1 (.slice ta m.length tc)) <| .c (.ca fun _ _ hkx => bound_at F Hk hl _ (F.keep _ _ hT hkx.2) (hm.below hkx.2)) <| .c (.ld b2 (fun _ => .tail _ (.tail _ (.tail _ (.head _)))) Tryd.underlying22 rfl (B32_info _)) <| .c (.ld b7 (fun _ => .tail _ (.head _)) Tryd.underlying22 rfl (B32_info _)) <| .c (.ca fun _ _ hkx => F.smuladdA lk.out lc.out lr.out HS.out _ (F.keep _ _ hT hkx.2)) <| .c (.al hz) <| .c (.st 8 (B32_info _) (B32_one _)) .nil
  intro vs V12 hJ hf
  obtain ⟨g13, hgg13⟩ := hf 8 _ _ rfl rfl
  obtain ⟨le0, apg13, owng13⟩ := hJ.got 8 hgg13
  have le_g13 := show Hid _ from le0
  clear le0
  have ne_b10_g13 : Hid (b10 ≠ g13) := apg13 (b10, B32 (bdig R), 22) (.head _)
  have ne_b7_g13 : Hid (b7 ≠ g13) := apg13 (b7, B32 (bdig r), 22) (.tail _ (.head _))
  have ne_b3_g13 : Hid (b3 ≠ g13) := apg13 (b3, B32 (bdig hi), 22) (.tail _ (.tail _ (.head _)))
  have ne_b2_g13 : Hid (b2 ≠ g13) := apg13 (b2, B32 (bdig c), 22) (.tail _ (.tail _ (.tail _ (.head _))))
  have ne_bR_g13 : Hid (bR ≠ g13) := apg13 (bR, B64 fun _ => 0, 24) (.tail _ (.tail _ (.tail _ (.tail _ (.head _)))))
  have ne_bA_g13 : Hid (bA ≠ g13) := apg13 (bA, B32 (bdig n), 22) (.tail _ (.tail _ (.tail _ (.tail _ (.tail _ (.head _))))))
  have hK : Kp [(g13, B32 (bdig S), 22), (b10, B32 (bdig R), 22), (b7, B32 (bdig r), 22), (b3, B32 (bdig hi), 22), (b2, B32 (bdig c), 22), (bR, B64 fun _ => 0, 24), (bA, B32 (bdig n), 22)] w V12 := (hJ.1.cons owng13)
  simp only [putL, Lv.val, Nat.zero_add, Nat.reduceAdd, hgg13, Act.put, List.setIfInBounds_toArray, List.set_cons_succ, List.set_cons_zero]
  clear hJ hf hgg13 apg13 owng13
  go_upto_region 6 with fail
  have lt_g13 := (hK.at g13 (B32 (bdig S)) 22 (.head _)).lt
  have lt_b10 := (hK.at b10 (B32 (bdig R)) 22 (.tail _ (.head _))).lt
  have lt_b7 := (hK.at b7 (B32 (bdig r)) 22 (.tail _ (.tail _ (.head _)))).lt
  have lt_b3 := (hK.at b3 (B32 (bdig hi)) 22 (.tail _ (.tail _ (.tail _ (.head _))))).lt
  have lt_b2 := (hK.at b2 (B32 (bdig c)) 22 (.tail _ (.tail _ (.tail _ (.tail _ (.head _)))))).lt
  have lt_bR := (hK.at bR (B64 fun _ => 0) 24 (.tail _ (.tail _ (.tail _ (.tail _ (.tail _ (.head _))))))).lt
  have lt_bA := (hK.at bA (B32 (bdig n)) 22 (.tail _ (.tail _ (.tail _ (.tail _ (.tail _ (.tail _ (.head _)))))))).lt
  have le_b14 := show Hid _ from hK.2.size
  have hK := hK.alloc (B64 fun _ => 0) 24
  generalize V12.alloc (.cells (B64 fun _ => 0) 24) = V15 at *
  obtain ⟨b14, Hb14⟩ : ∃ b, Hid (V12.heap.size = b) := ⟨_, rfl⟩
  have ne_g13_b14 : Hid (g13 ≠ b14) := by show _ ≠ _; rw [← Hb14.out]; exact Nat.ne_of_lt lt_g13
  have ne_b10_b14 : Hid (b10 ≠ b14) := by show _ ≠ _; rw [← Hb14.out]; exact Nat.ne_of_lt lt_b10
  have ne_b7_b14 : Hid (b7 ≠ b14) := by show _ ≠ _; rw [← Hb14.out]; exact Nat.ne_of_lt lt_b7
  have ne_b3_b14 : Hid (b3 ≠ b14) := by show _ ≠ _; rw [← Hb14.out]; exact Nat.ne_of_lt lt_b3
  have ne_b2_b14 : Hid (b2 ≠ b14) := by show _ ≠ _; rw [← Hb14.out]; exact Nat.ne_of_lt lt_b2
  have ne_bR_b14 : Hid (bR ≠ b14) := by show _ ≠ _; rw [← Hb14.out]; exact Nat.ne_of_lt lt_bR
  have ne_bA_b14 : Hid (bA ≠ b14) := by show _ ≠ _; rw [← Hb14.out]; exact Nat.ne_of_lt lt_bA
  have le_b14 : Hid (w.heap.size ≤ b14) := by show _ ≤ _; rw [← Hb14.out]; exact le_b14.out
  rw [Hb14.out] at hK ⊢
  clear lt_g13 lt_b10 lt_b7 lt_b3 lt_b2 lt_bR lt_bA
  refine wp_region_lv 38 (fun L => [(b14, if L 2 = true then B64 (bdig (two R 0)) else B64 fun _ => 0, 24), (g13, B32 (bdig S), 22), (b10, B32 (bdig R), 22), (b7, B32 (bdig r), 22), (b3, B32 (bdig hi), 22), (b2, B32 (bdig c), 22), (bR, B64 fun _ => 0, 24), (bA, B32 (bdig n), 22)]) [.v (.slice (some ⟨b14, 0, none⟩) 32 64), .v (.slice (some ⟨b10, 0, none⟩) 32 32), .v (.int .i64 (32))] hK (by kernel_rfl) (by kernel_rfl) (by kernel_rfl) (by rfl) ?_ ?_
  · exact .c (.p1 10 (.pointer (some ⟨b14, 0, none⟩))) <| .c (.p1 8 (.pointer (some ⟨b10, 0, none⟩))) <| .c (.xr [(31, .slice (some ⟨b14, 0, none⟩) 32 64), (32, .slice (some ⟨b10, 0, none⟩) 32 32)] b14 (.hr (fun _ => rfl) (fun _ => rfl) (fun _ => fc ne_g13_b14 <| fc ne_b10_b14 <| fc ne_b7_b14 <| fc ne_b3_b14 <| fc ne_b2_b14 <| fc ne_bR_b14 <| fc ne_bA_b14 <| fn)) le_b14.out fun _ ac wc _ _ hfx _ hkx hjo hx => by have f31 := hfx _ (.head _); have f32 := hfx _ (.tail _ (.head _)); have hrg : wc.rangeAt b10 0 (B32 (bdig R)).toList := (hkx.at b10 (B32 (bdig R)) 22 (.tail _ (.tail _ (.head _)))).range; refine wp_copy_at (.tmp 31) (.tmp 32) 23 23 rfl 5 Tryd.underlying23 infoU8s b14 0 32 64 b10 0 32 32 f31 f32 hjo _ hrg (by rw [B32_len0]; rfl) (by rw [B32_len0, B64_size]; decide) (B32_ones _) ?_; rw [join_lo lR.out, B32_len0]; exact hx _ rfl) .nil
  intro _ V16 hJ _
  have hK : Kp [(b14, B64 (bdig (two R 0)), 24), (g13, B32 (bdig S), 22), (b10, B32 (bdig R), 22), (b7, B32 (bdig r), 22), (b3, B32 (bdig hi), 22), (b2, B32 (bdig c), 22), (bR, B64 fun _ => 0, 24), (bA, B32 (bdig n), 22)] w V16 := hJ.1
  clear hJ
  simp only [putL, Lv.val, Act.put, List.setIfInBounds_toArray, List.set_cons_succ, List.set_cons_zero]
  go_upto_region 7 with fail
  refine wp_region_lv 38 (fun L => [(b14, if L 2 = true then B64 (bdig (two R S)) else B64 (bdig (two R 0)), 24), (g13, B32 (bdig S), 22), (b10, B32 (bdig R), 22), (b7, B32 (bdig r), 22), (b3, B32 (bdig hi), 22), (b2, B32 (bdig c), 22), (bR, B64 fun _ => 0, 24), (bA, B32 (bdig n), 22)]) [.v (.slice (some ⟨b14, 32, none⟩) 32 32), .v (.slice (some ⟨g13, 0, none⟩) 32 32), .v (.int .i64 (32))] hK (by kernel_rfl) (by kernel_rfl) (by kernel_rfl) (by rfl) ?_ ?_
  · exact .c (.p1 10 (.pointer (some ⟨b14, 0, none⟩))) <| .c (.p1 9 (.pointer (some ⟨g13, 0, none⟩))) <| .c (.xr [(34, .slice (some ⟨b14, 32, none⟩) 32 32), (35, .slice (some ⟨g13, 0, none⟩) 32 32)] b14 (.hr (fun _ => rfl) (fun _ => rfl) (fun _ => fc ne_g13_b14 <| fc ne_b10_b14 <| fc ne_b7_b14 <| fc ne_b3_b14 <| fc ne_b2_b14 <| fc ne_bR_b14 <| fc ne_bA_b14 <| fn)) le_b14.out fun _ ac wc _ _ hfx _ hkx hjo hx => by have f34 := hfx _ (.head _); have f35 := hfx _ (.tail _ (.head _)); have hrg : wc.rangeAt g13 0 (B32 (bdig S)).toList := (hkx.at g13 (B32 (bdig S)) 22 (.tail _ (.head _))).range; refine wp_copy_at (.tmp 34) (.tmp 35) 23 23 rfl 5 Tryd.underlying23 infoU8s b14 32 32 32 g13 0 32 32 f34 f35 hjo _ hrg (by rw [B32_len0]; rfl) (by rw [B32_len0, B64_size]; decide) (B32_ones _) ?_; rw [join_hi lR.out S, B32_len0]; exact hx _ rfl) .nil
  intro _ V17 hJ _
  have hK : Kp [(b14, B64 (bdig (two R S)), 24), (g13, B32 (bdig S), 22), (b10, B32 (bdig R), 22), (b7, B32 (bdig r), 22), (b3, B32 (bdig hi), 22), (b2, B32 (bdig c), 22), (bR, B64 fun _ => 0, 24), (bA, B32 (bdig n), 22)] w V17 := hJ.1
  clear hJ
  simp only [putL, Lv.val, Act.put, List.setIfInBounds_toArray, List.set_cons_succ, List.set_cons_zero]
  go_wp2_with (first
    | refine wpList_load_own (by rfl) 24 (.tmp 10) (by rfl) b14 (by rfl) (B64 (bdig (two R S))) _ (hK.at b14 (B64 (bdig (two R S))) 24 (.head _)) Tryd.underlying24 (by rfl) (B64_info _) ?_
    | refine wpList_store_own (op := { dst := none, op := _, type := _, pos := _, after := _, guard := _ }) rfl 24 (.tmp 4) (.tmp 37) rfl bR 0 (B64 (bdig (two R S))) (by rfl) (by rfl) (hK.at bR (B64 fun _ => 0) 24 (.tail _ (.tail _ (.tail _ (.tail _ (.tail _ (.tail _ (.head _)))))))) (B64_le _ _) (B64_info _) (B64_one _) (by rfl) ?_)
  exact bodyPost_ret (results_own Tryd.results8 _ _ bR (B64 (bdig (two R S))) _ (by rfl) (own_setCells (hK.at bR (B64 fun _ => 0) 24 (.tail _ (.tail _ (.tail _ (.tail _ (.tail _ (.tail _ (.head _)))))))) (B64_sizes _ _)) Tryd.underlying24 rfl (B64_info _)) rfl ⟨rfl, Below.setCells _ _ _ _ le_bR.out hK.2⟩
end Go.Proofs.YtgibllaifnnfkaaDoor
