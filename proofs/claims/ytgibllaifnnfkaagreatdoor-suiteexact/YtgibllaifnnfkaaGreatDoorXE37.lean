/- Of the texts SS2, SV2, SM2, SM3: what the card of this claim reaches. -/
import Derived.Test.YtgibllaifnnfkaaGreatDoorXE32
import Derived.Test.YtgibllaifnnfkaaGreatDoorXE36
import Derived.Test.YtgibllaifnnfkaaGreatDoorXE29
import Derived.Test.YtgibllaifnnfkaaGreatDoorXE4
import Derived.Test.YtgibllaifnnfkaaGreatDoorXE31
import Derived.Test.YtgibllaifnnfkaaGreatDoorXE27
namespace Go.Proofs.YtgibllaifnnfkaaGreatDoor
open Go Go.RowKit
set_option maxRecDepth 100000 in
set_option maxHeartbeats 1000000 in
theorem psign_at {n lo hi c y r R k S : Nat} {ta : Option Addr} {tc : Nat} {m : List Int} (Hd : Hid (dn (by32 n) = two lo hi)) (llo : Hid (lo < R256)) (Hc : Hid (clamp lo = c)) (Hy : Hid (enc (Pt.times c BP) = y)) (Hr : Hid (dn (by32 hi ++ m) % LL = r)) (HR : Hid (enc (Pt.times r BP) = R)) (Hk : Hid (dn (by32 R ++ (by32 y ++ m)) % LL = k)) (HS : Hid ((k * c + r) % LL = S)) (hl : m.length ≤ 1000) (w : World) (hm : Txt w ta tc m) : Calls Tryz.prog 24 #[.agg (B32 (bdig n)), .slice ta m.length tc] w fun x w' => x = .returned (.agg (B64 (bdig (two R S)))) ∧ Below w.heap.size w w' := by
  have hz := (zero_of_info zeroB32).1
  have hz64 := (zero_of_info zeroB64).1
  have lc : Hid (c < R256) := by show _ < _; rw [← Hc.out]; exact clamp_lt _
  have lr : Hid (r < R256) := by show _ < _; rw [← Hr.out]; exact lt_of_modL
  have lk : Hid (k < R256) := by show _ < _; rw [← Hk.out]; exact lt_of_modL
  have lR : Hid (R < R256) := by show _ < _; rw [← HR.out, R256_HH]; exact enc_lt _
  have hbs : Hid (∀ w, Calls Tryz.prog 40 #[.agg (B32 (bdig c))] w fun x w' => x = .returned (.agg (B32 (bdig y))) ∧ Below w.heap.size w w') := fun w => by rw [← Hy.out]; exact pbase c lc.out w
  have hbr : Hid (∀ w, Calls Tryz.prog 40 #[.agg (B32 (bdig r))] w fun x w' => x = .returned (.agg (B32 (bdig R))) ∧ Below w.heap.size w w') := fun w => by rw [← HR.out]; exact pbase r lr.out w
  have hma : Hid (∀ w, Calls Tryz.prog 47 #[.agg (B32 (bdig k)), .agg (B32 (bdig c)), .agg (B32 (bdig r))] w fun x w' => x = .returned (.agg (B32 (bdig S))) ∧ Below w.heap.size w w') := fun w => by rw [← HS.out]; exact muladd_any k c r lk.out lc.out lr.out w
  obtain ⟨l, Hl⟩ : ∃ l, Hid (by32 hi ++ m = l) := ⟨_, rfl⟩
  obtain ⟨z, Hz⟩ : ∃ z, Hid (dn l = z) := ⟨_, rfl⟩
  have hzl : Hid (z < R512) := by show _ < _; rw [← Hz.out]; exact dn_lt _
  have hzr : Hid (z % LL = r) := by show _ = _; rw [← Hz.out, ← Hl.out]; exact Hr.out
  have hfl : Hid ([by32 hi, m].flatten = l) := by show _ = _; rw [← Hl.out]; simp
  have hln : Hid (l.length ≤ 1000000) := by show _ ≤ _; rw [← Hl.out, List.length_append, by32_length]; omega
  go_enter Tryz.func24, Tryz.ntmps24
  go_upto_region 1 with fail
  have hK := ((Kp.nil w).alloc (B32 (bdig n)) 22).alloc (B64 fun _ => 0) 24
  rw [World.size_alloc] at hK
  generalize (w.alloc (.cells (B32 (bdig n)) 22)).alloc (.cells (B64 fun _ => 0) 24) = W at *
  obtain ⟨bA, HbA⟩ : ∃ b, Hid (w.heap.size = b) := ⟨_, rfl⟩
  obtain ⟨bR, HbR⟩ : ∃ b, Hid (bA + 1 = b) := ⟨_, rfl⟩
  have le_bA : Hid (w.heap.size ≤ bA) := by show _ ≤ _; have := HbA.out; omega
  have le_bR : Hid (w.heap.size ≤ bR) := by show _ ≤ _; have := HbA.out; have := HbR.out; omega
  have ne_bA_bR : Hid (bA ≠ bR) := by show _ ≠ _; have := HbR.out; omega
  rw [HbA.out, HbR.out] at hK ⊢
  go_wp2_with (refine wpList_load_own (by rfl) 22 (.tmp 2) (by rfl) bA (by rfl) (B32 (bdig n)) _ (hK.at bA (B32 (bdig n)) 22 (.tail _ (.head _))) Tryz.underlying22 (by rfl) (B32_info _) ?_)
  have lt_bR := (hK.at bR (B64 fun _ => 0) 24 (.head _)).lt
  have lt_bA := (hK.at bA (B32 (bdig n)) 22 (.tail _ (.head _))).lt
  refine (seeded_at Hd llo Hc _).mono ?_
  rintro e V1 ⟨ja, jc, bX, X, rfl, hTx, oX, leX, bw⟩
  have ne_bR_bX : Hid (bR ≠ bX) := Nat.ne_of_lt (Nat.lt_of_lt_of_le lt_bR leX)
  have ne_bA_bX : Hid (bA ≠ bX) := Nat.ne_of_lt (Nat.lt_of_lt_of_le lt_bA leX)
  have hK := (hK.below bw).cons oX
  replace hTx := show Hid _ from hTx
  clear bw oX leX lt_bR lt_bA
  go_upto_region 2 with (refine wpList_store_new (by rfl) 22 (.tmp 5) (.tmp 16) (by rfl) _ (B32 (bdig c)) (by rfl) (by rfl) (B32_info _) (B32_sizes _ _) (B32_one _) (by rfl) ?_)
  have lt_bX := (hK.at bX (X) 5 (.head _)).lt
  have lt_bR := (hK.at bR (B64 fun _ => 0) 24 (.tail _ (.head _))).lt
  have lt_bA := (hK.at bA (B32 (bdig n)) 22 (.tail _ (.tail _ (.head _)))).lt
  have le_b2 := show Hid _ from hK.2.size
  have hK := hK.alloc (B32 (bdig c)) 22
  generalize V1.alloc (.cells (B32 (bdig c)) 22) = V3 at *
  obtain ⟨b2, Hb2⟩ : ∃ b, Hid (V1.heap.size = b) := ⟨_, rfl⟩
  have ne_bX_b2 : Hid (bX ≠ b2) := by show _ ≠ _; rw [← Hb2.out]; exact Nat.ne_of_lt lt_bX
  have ne_bR_b2 : Hid (bR ≠ b2) := by show _ ≠ _; rw [← Hb2.out]; exact Nat.ne_of_lt lt_bR
  have ne_bA_b2 : Hid (bA ≠ b2) := by show _ ≠ _; rw [← Hb2.out]; exact Nat.ne_of_lt lt_bA
  have le_b2 : Hid (w.heap.size ≤ b2) := by show _ ≤ _; rw [← Hb2.out]; exact le_b2.out
  rw [Hb2.out] at hK ⊢
  clear lt_bX lt_bR lt_bA
  go_wp2_with (refine wpList_load_own (by rfl) 22 (.tmp 5) (by rfl) b2 (by rfl) (B32 (bdig c)) _ (hK.at b2 (B32 (bdig c)) 22 (.head _)) Tryz.underlying22 (by rfl) (B32_info _) ?_)
  refine (hbs.out _).mono ?_
  rintro e V4 ⟨rfl, bw⟩
  have hK := hK.below bw
  clear bw
  go_upto_region 3 with (refine wpList_store_new (by rfl) 22 (.tmp 7) (.tmp 19) (by rfl) _ (B32 (bdig y)) (by rfl) (by rfl) (B32_info _) (B32_sizes _ _) (B32_one _) (by rfl) ?_)
  have lt_b2 := (hK.at b2 (B32 (bdig c)) 22 (.head _)).lt
  have lt_bX := (hK.at bX (X) 5 (.tail _ (.head _))).lt
  have lt_bR := (hK.at bR (B64 fun _ => 0) 24 (.tail _ (.tail _ (.head _)))).lt
  have lt_bA := (hK.at bA (B32 (bdig n)) 22 (.tail _ (.tail _ (.tail _ (.head _))))).lt
  have le_b5 := show Hid _ from hK.2.size
  have hK := hK.alloc (B32 (bdig y)) 22
  generalize V4.alloc (.cells (B32 (bdig y)) 22) = V6 at *
  obtain ⟨b5, Hb5⟩ : ∃ b, Hid (V4.heap.size = b) := ⟨_, rfl⟩
  have ne_b2_b5 : Hid (b2 ≠ b5) := by show _ ≠ _; rw [← Hb5.out]; exact Nat.ne_of_lt lt_b2
  have ne_bX_b5 : Hid (bX ≠ b5) := by show _ ≠ _; rw [← Hb5.out]; exact Nat.ne_of_lt lt_bX
  have ne_bR_b5 : Hid (bR ≠ b5) := by show _ ≠ _; rw [← Hb5.out]; exact Nat.ne_of_lt lt_bR
  have ne_bA_b5 : Hid (bA ≠ b5) := by show _ ≠ _; rw [← Hb5.out]; exact Nat.ne_of_lt lt_bA
  have le_b5 : Hid (w.heap.size ≤ b5) := by show _ ≤ _; rw [← Hb5.out]; exact le_b5.out
  rw [Hb5.out] at hK ⊢
  clear lt_b2 lt_bX lt_bR lt_bA
  go_wp2_with fail
  have hb := hTx.out _ (hK.at bX (X) 5 (.tail _ (.tail _ (.head _))))
  have hq := rows2 hb.1 hb.2 (hm.below hK.2).1 hm.2
  clear hb
  have hK := hK.below (alloc_below V6 (.cells #[.slice ja 32 jc, .slice ta m.length tc] 23))
  refine (pjoin hfl.out hln.out _ hq).mono ?_
  rintro e V7 ⟨aj, cj, rfl, hv, hnn, bw⟩
  have hK := hK.below bw
  clear bw hq
  go_wp2_with fail
  refine (psum512 Hz.out hln.out _ ⟨hv, hnn⟩).mono ?_
  rintro e V8 ⟨rfl, bw⟩
  have hK := hK.below bw
  clear bw hv hnn
  go_upto_region 4 with (refine wpList_store_new (by rfl) 24 (.tmp 8) (.tmp 24) (by rfl) _ (B64 (bdig z)) (by rfl) (by rfl) (B64_info _) (B64_sizes _ _) (B64_one _) (by rfl) ?_)
  have lt_b5 := (hK.at b5 (B32 (bdig y)) 22 (.head _)).lt
  have lt_b2 := (hK.at b2 (B32 (bdig c)) 22 (.tail _ (.head _))).lt
  have lt_bX := (hK.at bX (X) 5 (.tail _ (.tail _ (.head _)))).lt
  have lt_bR := (hK.at bR (B64 fun _ => 0) 24 (.tail _ (.tail _ (.tail _ (.head _))))).lt
  have lt_bA := (hK.at bA (B32 (bdig n)) 22 (.tail _ (.tail _ (.tail _ (.tail _ (.head _)))))).lt
  have le_b9 := show Hid _ from hK.2.size
  have hK := hK.alloc (B64 (bdig z)) 24
  generalize V8.alloc (.cells (B64 (bdig z)) 24) = V10 at *
  obtain ⟨b9, Hb9⟩ : ∃ b, Hid (V8.heap.size = b) := ⟨_, rfl⟩
  have ne_b5_b9 : Hid (b5 ≠ b9) := by show _ ≠ _; rw [← Hb9.out]; exact Nat.ne_of_lt lt_b5
  have ne_b2_b9 : Hid (b2 ≠ b9) := by show _ ≠ _; rw [← Hb9.out]; exact Nat.ne_of_lt lt_b2
  have ne_bX_b9 : Hid (bX ≠ b9) := by show _ ≠ _; rw [← Hb9.out]; exact Nat.ne_of_lt lt_bX
  have ne_bR_b9 : Hid (bR ≠ b9) := by show _ ≠ _; rw [← Hb9.out]; exact Nat.ne_of_lt lt_bR
  have ne_bA_b9 : Hid (bA ≠ b9) := by show _ ≠ _; rw [← Hb9.out]; exact Nat.ne_of_lt lt_bA
  have le_b9 : Hid (w.heap.size ≤ b9) := by show _ ≤ _; rw [← Hb9.out]; exact le_b9.out
  rw [Hb9.out] at hK ⊢
  clear lt_b5 lt_b2 lt_bX lt_bR lt_bA
  go_wp2_with fail
  refine (pmodL64 (hK.at b9 (B64 (bdig z)) 24 (.head _)) hzl.out hzr.out).mono ?_
  rintro e V11 ⟨rfl, bw⟩
  have hK := hK.below bw
  clear bw
  go_upto_region 5 with (refine wpList_store_new (by rfl) 22 (.tmp 9) (.tmp 26) (by rfl) _ (B32 (bdig r)) (by rfl) (by rfl) (B32_info _) (B32_sizes _ _) (B32_one _) (by rfl) ?_)
  have lt_b9 := (hK.at b9 (B64 (bdig z)) 24 (.head _)).lt
  have lt_b5 := (hK.at b5 (B32 (bdig y)) 22 (.tail _ (.head _))).lt
  have lt_b2 := (hK.at b2 (B32 (bdig c)) 22 (.tail _ (.tail _ (.head _)))).lt
  have lt_bX := (hK.at bX (X) 5 (.tail _ (.tail _ (.tail _ (.head _))))).lt
  have lt_bR := (hK.at bR (B64 fun _ => 0) 24 (.tail _ (.tail _ (.tail _ (.tail _ (.head _)))))).lt
  have lt_bA := (hK.at bA (B32 (bdig n)) 22 (.tail _ (.tail _ (.tail _ (.tail _ (.tail _ (.head _))))))).lt
  have le_b12 := show Hid _ from hK.2.size
  have hK := hK.alloc (B32 (bdig r)) 22
  generalize V11.alloc (.cells (B32 (bdig r)) 22) = V13 at *
  obtain ⟨b12, Hb12⟩ : ∃ b, Hid (V11.heap.size = b) := ⟨_, rfl⟩
  have ne_b9_b12 : Hid (b9 ≠ b12) := by show _ ≠ _; rw [← Hb12.out]; exact Nat.ne_of_lt lt_b9
  have ne_b5_b12 : Hid (b5 ≠ b12) := by show _ ≠ _; rw [← Hb12.out]; exact Nat.ne_of_lt lt_b5
  have ne_b2_b12 : Hid (b2 ≠ b12) := by show _ ≠ _; rw [← Hb12.out]; exact Nat.ne_of_lt lt_b2
  have ne_bX_b12 : Hid (bX ≠ b12) := by show _ ≠ _; rw [← Hb12.out]; exact Nat.ne_of_lt lt_bX
  have ne_bR_b12 : Hid (bR ≠ b12) := by show _ ≠ _; rw [← Hb12.out]; exact Nat.ne_of_lt lt_bR
  have ne_bA_b12 : Hid (bA ≠ b12) := by show _ ≠ _; rw [← Hb12.out]; exact Nat.ne_of_lt lt_bA
  have le_b12 : Hid (w.heap.size ≤ b12) := by show _ ≤ _; rw [← Hb12.out]; exact le_b12.out
  rw [Hb12.out] at hK ⊢
  clear lt_b9 lt_b5 lt_b2 lt_bX lt_bR lt_bA
  go_wp2_with (refine wpList_load_own (by rfl) 22 (.tmp 9) (by rfl) b12 (by rfl) (B32 (bdig r)) _ (hK.at b12 (B32 (bdig r)) 22 (.head _)) Tryz.underlying22 (by rfl) (B32_info _) ?_)
  refine (hbr.out _).mono ?_
  rintro e V14 ⟨rfl, bw⟩
  have hK := hK.below bw
  clear bw
  go_upto_region 6 with (refine wpList_store_new (by rfl) 22 (.tmp 10) (.tmp 28) (by rfl) _ (B32 (bdig R)) (by rfl) (by rfl) (B32_info _) (B32_sizes _ _) (B32_one _) (by rfl) ?_)
  have lt_b12 := (hK.at b12 (B32 (bdig r)) 22 (.head _)).lt
  have lt_b9 := (hK.at b9 (B64 (bdig z)) 24 (.tail _ (.head _))).lt
  have lt_b5 := (hK.at b5 (B32 (bdig y)) 22 (.tail _ (.tail _ (.head _)))).lt
  have lt_b2 := (hK.at b2 (B32 (bdig c)) 22 (.tail _ (.tail _ (.tail _ (.head _))))).lt
  have lt_bX := (hK.at bX (X) 5 (.tail _ (.tail _ (.tail _ (.tail _ (.head _)))))).lt
  have lt_bR := (hK.at bR (B64 fun _ => 0) 24 (.tail _ (.tail _ (.tail _ (.tail _ (.tail _ (.head _))))))).lt
  have lt_bA := (hK.at bA (B32 (bdig n)) 22 (.tail _ (.tail _ (.tail _ (.tail _ (.tail _ (.tail _ (.head _)))))))).lt
  have le_b15 := show Hid _ from hK.2.size
  have hK := hK.alloc (B32 (bdig R)) 22
  generalize V14.alloc (.cells (B32 (bdig R)) 22) = V16 at *
  obtain ⟨b15, Hb15⟩ : ∃ b, Hid (V14.heap.size = b) := ⟨_, rfl⟩
  have ne_b12_b15 : Hid (b12 ≠ b15) := by show _ ≠ _; rw [← Hb15.out]; exact Nat.ne_of_lt lt_b12
  have ne_b9_b15 : Hid (b9 ≠ b15) := by show _ ≠ _; rw [← Hb15.out]; exact Nat.ne_of_lt lt_b9
  have ne_b5_b15 : Hid (b5 ≠ b15) := by show _ ≠ _; rw [← Hb15.out]; exact Nat.ne_of_lt lt_b5
  have ne_b2_b15 : Hid (b2 ≠ b15) := by show _ ≠ _; rw [← Hb15.out]; exact Nat.ne_of_lt lt_b2
  have ne_bX_b15 : Hid (bX ≠ b15) := by show _ ≠ _; rw [← Hb15.out]; exact Nat.ne_of_lt lt_bX
  have ne_bR_b15 : Hid (bR ≠ b15) := by show _ ≠ _; rw [← Hb15.out]; exact Nat.ne_of_lt lt_bR
  have ne_bA_b15 : Hid (bA ≠ b15) := by show _ ≠ _; rw [← Hb15.out]; exact Nat.ne_of_lt lt_bA
  have le_b15 : Hid (w.heap.size ≤ b15) := by show _ ≤ _; rw [← Hb15.out]; exact le_b15.out
  rw [Hb15.out] at hK ⊢
  clear lt_b12 lt_b9 lt_b5 lt_b2 lt_bX lt_bR lt_bA
  refine wp_region_lv 43 (fun _ => [(b15, B32 (bdig R), 22), (b12, B32 (bdig r), 22), (b9, B64 (bdig z), 24), (b5, B32 (bdig y), 22), (b2, B32 (bdig c), 22), (bX, X, 5), (bR, B64 fun _ => 0, 24), (bA, B32 (bdig n), 22)]) [.v (.agg (B32 (bdig R))), .v (.agg (B32 (bdig y))), .v (.slice ta m.length tc), .v (.agg (B32 (bdig k))), .v (.agg (B32 (bdig c))), .v (.agg (B32 (bdig r))), .v (.agg (B32 (bdig S))), .mk (B32 fun _ => 0) (B32 (bdig S)) 22 8, .o] hK (by kernel_rfl) (by kernel_rfl) (by kernel_rfl) (by rfl) ?_ ?_
  · exact .c (.ld b15 (fun _ => .head _) Tryz.underlying22 rfl (B32_info _)) <| .c (.ld b5 (fun _ => .tail _ (.tail _ (.tail _ (.head _)))) Tryz.underlying22 rfl (B32_info _)) <| .c (.p1 1 (.slice ta m.length tc)) <| .c (.ca fun _ _ hkx => challenge_at Hk hl _ (hm.below hkx.2)) <| .c (.ld b2 (fun _ => .tail _ (.tail _ (.tail _ (.tail _ (.head _))))) Tryz.underlying22 rfl (B32_info _)) <| .c (.ld b12 (fun _ => .tail _ (.head _)) Tryz.underlying22 rfl (B32_info _)) <| .c (.ca fun _ _ _ => hma.out _) <| .c (.al hz) <| .c (.st 7 (B32_info _) (B32_one _)) .nil
  intro vs V17 hJ hf
  obtain ⟨g18, hgg18⟩ := hf 7 _ _ rfl rfl
  obtain ⟨le0, apg18, owng18⟩ := hJ.got 7 hgg18
  have le_g18 := show Hid _ from le0
  clear le0
  have ne_b15_g18 : Hid (b15 ≠ g18) := apg18 (b15, B32 (bdig R), 22) (.head _)
  have ne_b12_g18 : Hid (b12 ≠ g18) := apg18 (b12, B32 (bdig r), 22) (.tail _ (.head _))
  have ne_b9_g18 : Hid (b9 ≠ g18) := apg18 (b9, B64 (bdig z), 24) (.tail _ (.tail _ (.head _)))
  have ne_b5_g18 : Hid (b5 ≠ g18) := apg18 (b5, B32 (bdig y), 22) (.tail _ (.tail _ (.tail _ (.head _))))
  have ne_b2_g18 : Hid (b2 ≠ g18) := apg18 (b2, B32 (bdig c), 22) (.tail _ (.tail _ (.tail _ (.tail _ (.head _)))))
  have ne_bX_g18 : Hid (bX ≠ g18) := apg18 (bX, X, 5) (.tail _ (.tail _ (.tail _ (.tail _ (.tail _ (.head _))))))
  have ne_bR_g18 : Hid (bR ≠ g18) := apg18 (bR, B64 fun _ => 0, 24) (.tail _ (.tail _ (.tail _ (.tail _ (.tail _ (.tail _ (.head _)))))))
  have ne_bA_g18 : Hid (bA ≠ g18) := apg18 (bA, B32 (bdig n), 22) (.tail _ (.tail _ (.tail _ (.tail _ (.tail _ (.tail _ (.tail _ (.head _))))))))
  have hK : Kp [(g18, B32 (bdig S), 22), (b15, B32 (bdig R), 22), (b12, B32 (bdig r), 22), (b9, B64 (bdig z), 24), (b5, B32 (bdig y), 22), (b2, B32 (bdig c), 22), (bX, X, 5), (bR, B64 fun _ => 0, 24), (bA, B32 (bdig n), 22)] w V17 := (hJ.1.cons owng18)
  simp only [putL, Lv.val, Nat.zero_add, Nat.reduceAdd, hgg18, Act.put, List.setIfInBounds_toArray, List.set_cons_succ, List.set_cons_zero]
  clear hJ hf hgg18 apg18 owng18
  go_upto_region 8 with fail
  have lt_g18 := (hK.at g18 (B32 (bdig S)) 22 (.head _)).lt
  have lt_b15 := (hK.at b15 (B32 (bdig R)) 22 (.tail _ (.head _))).lt
  have lt_b12 := (hK.at b12 (B32 (bdig r)) 22 (.tail _ (.tail _ (.head _)))).lt
  have lt_b9 := (hK.at b9 (B64 (bdig z)) 24 (.tail _ (.tail _ (.tail _ (.head _))))).lt
  have lt_b5 := (hK.at b5 (B32 (bdig y)) 22 (.tail _ (.tail _ (.tail _ (.tail _ (.head _)))))).lt
  have lt_b2 := (hK.at b2 (B32 (bdig c)) 22 (.tail _ (.tail _ (.tail _ (.tail _ (.tail _ (.head _))))))).lt
  have lt_bX := (hK.at bX (X) 5 (.tail _ (.tail _ (.tail _ (.tail _ (.tail _ (.tail _ (.head _)))))))).lt
  have lt_bR := (hK.at bR (B64 fun _ => 0) 24 (.tail _ (.tail _ (.tail _ (.tail _ (.tail _ (.tail _ (.tail _ (.head _))))))))).lt
  have lt_bA := (hK.at bA (B32 (bdig n)) 22 (.tail _ (.tail _ (.tail _ (.tail _ (.tail _ (.tail _ (.tail _ (.tail _ (.head _)))))))))).lt
  have le_b19 := show Hid _ from hK.2.size
  have hK := hK.alloc (B64 fun _ => 0) 24
  generalize V17.alloc (.cells (B64 fun _ => 0) 24) = V20 at *
  obtain ⟨b19, Hb19⟩ : ∃ b, Hid (V17.heap.size = b) := ⟨_, rfl⟩
  have ne_g18_b19 : Hid (g18 ≠ b19) := by show _ ≠ _; rw [← Hb19.out]; exact Nat.ne_of_lt lt_g18
  have ne_b15_b19 : Hid (b15 ≠ b19) := by show _ ≠ _; rw [← Hb19.out]; exact Nat.ne_of_lt lt_b15
  have ne_b12_b19 : Hid (b12 ≠ b19) := by show _ ≠ _; rw [← Hb19.out]; exact Nat.ne_of_lt lt_b12
  have ne_b9_b19 : Hid (b9 ≠ b19) := by show _ ≠ _; rw [← Hb19.out]; exact Nat.ne_of_lt lt_b9
  have ne_b5_b19 : Hid (b5 ≠ b19) := by show _ ≠ _; rw [← Hb19.out]; exact Nat.ne_of_lt lt_b5
  have ne_b2_b19 : Hid (b2 ≠ b19) := by show _ ≠ _; rw [← Hb19.out]; exact Nat.ne_of_lt lt_b2
  have ne_bX_b19 : Hid (bX ≠ b19) := by show _ ≠ _; rw [← Hb19.out]; exact Nat.ne_of_lt lt_bX
  have ne_bR_b19 : Hid (bR ≠ b19) := by show _ ≠ _; rw [← Hb19.out]; exact Nat.ne_of_lt lt_bR
  have ne_bA_b19 : Hid (bA ≠ b19) := by show _ ≠ _; rw [← Hb19.out]; exact Nat.ne_of_lt lt_bA
  have le_b19 : Hid (w.heap.size ≤ b19) := by show _ ≤ _; rw [← Hb19.out]; exact le_b19.out
  rw [Hb19.out] at hK ⊢
  clear lt_g18 lt_b15 lt_b12 lt_b9 lt_b5 lt_b2 lt_bX lt_bR lt_bA
  refine wp_region_lv 43 (fun L => [(b19, if L 2 = true then B64 (bdig (two R 0)) else B64 fun _ => 0, 24), (g18, B32 (bdig S), 22), (b15, B32 (bdig R), 22), (b12, B32 (bdig r), 22), (b9, B64 (bdig z), 24), (b5, B32 (bdig y), 22), (b2, B32 (bdig c), 22), (bX, X, 5), (bR, B64 fun _ => 0, 24), (bA, B32 (bdig n), 22)]) [.v (.slice (some ⟨b19, 0, none⟩) 32 64), .v (.slice (some ⟨b15, 0, none⟩) 32 32), .v (.int .i64 (32))] hK (by kernel_rfl) (by kernel_rfl) (by kernel_rfl) (by rfl) ?_ ?_
  · exact .c (.p1 12 (.pointer (some ⟨b19, 0, none⟩))) <| .c (.p1 10 (.pointer (some ⟨b15, 0, none⟩))) <| .c (.xr [(36, .slice (some ⟨b19, 0, none⟩) 32 64), (37, .slice (some ⟨b15, 0, none⟩) 32 32)] b19 (.hr (fun _ => rfl) (fun _ => rfl) (fun _ => fc ne_g18_b19 <| fc ne_b15_b19 <| fc ne_b12_b19 <| fc ne_b9_b19 <| fc ne_b5_b19 <| fc ne_b2_b19 <| fc ne_bX_b19 <| fc ne_bR_b19 <| fc ne_bA_b19 <| fn)) le_b19.out fun _ ac wc _ _ hfx _ hkx hjo hx => by have f36 := hfx _ (.head _); have f37 := hfx _ (.tail _ (.head _)); have hrg : wc.rangeAt b15 0 (B32 (bdig R)).toList := (hkx.at b15 (B32 (bdig R)) 22 (.tail _ (.tail _ (.head _)))).range; refine wp_copy_at (.tmp 36) (.tmp 37) 23 23 rfl 5 Tryz.underlying23 infoU8s b19 0 32 64 b15 0 32 32 f36 f37 hjo _ hrg (by rw [B32_len0]; rfl) (by rw [B32_len0, B64_size]; decide) (B32_ones _) ?_; rw [join_lo lR.out, B32_len0]; exact hx _ rfl) .nil
  intro _ V21 hJ _
  have hK : Kp [(b19, B64 (bdig (two R 0)), 24), (g18, B32 (bdig S), 22), (b15, B32 (bdig R), 22), (b12, B32 (bdig r), 22), (b9, B64 (bdig z), 24), (b5, B32 (bdig y), 22), (b2, B32 (bdig c), 22), (bX, X, 5), (bR, B64 fun _ => 0, 24), (bA, B32 (bdig n), 22)] w V21 := hJ.1
  clear hJ
  simp only [putL, Lv.val, Act.put, List.setIfInBounds_toArray, List.set_cons_succ, List.set_cons_zero]
  go_upto_region 9 with fail
  refine wp_region_lv 43 (fun L => [(b19, if L 2 = true then B64 (bdig (two R S)) else B64 (bdig (two R 0)), 24), (g18, B32 (bdig S), 22), (b15, B32 (bdig R), 22), (b12, B32 (bdig r), 22), (b9, B64 (bdig z), 24), (b5, B32 (bdig y), 22), (b2, B32 (bdig c), 22), (bX, X, 5), (bR, B64 fun _ => 0, 24), (bA, B32 (bdig n), 22)]) [.v (.slice (some ⟨b19, 32, none⟩) 32 32), .v (.slice (some ⟨g18, 0, none⟩) 32 32), .v (.int .i64 (32))] hK (by kernel_rfl) (by kernel_rfl) (by kernel_rfl) (by rfl) ?_ ?_
  · exact .c (.p1 12 (.pointer (some ⟨b19, 0, none⟩))) <| .c (.p1 11 (.pointer (some ⟨g18, 0, none⟩))) <| .c (.xr [(39, .slice (some ⟨b19, 32, none⟩) 32 32), (40, .slice (some ⟨g18, 0, none⟩) 32 32)] b19 (.hr (fun _ => rfl) (fun _ => rfl) (fun _ => fc ne_g18_b19 <| fc ne_b15_b19 <| fc ne_b12_b19 <| fc ne_b9_b19 <| fc ne_b5_b19 <| fc ne_b2_b19 <| fc ne_bX_b19 <| fc ne_bR_b19 <| fc ne_bA_b19 <| fn)) le_b19.out fun _ ac wc _ _ hfx _ hkx hjo hx => by have f39 := hfx _ (.head _); have f40 := hfx _ (.tail _ (.head _)); have hrg : wc.rangeAt g18 0 (B32 (bdig S)).toList := (hkx.at g18 (B32 (bdig S)) 22 (.tail _ (.head _))).range; refine wp_copy_at (.tmp 39) (.tmp 40) 23 23 rfl 5 Tryz.underlying23 infoU8s b19 32 32 32 g18 0 32 32 f39 f40 hjo _ hrg (by rw [B32_len0]; rfl) (by rw [B32_len0, B64_size]; decide) (B32_ones _) ?_; rw [join_hi lR.out S, B32_len0]; exact hx _ rfl) .nil
  intro _ V22 hJ _
  have hK : Kp [(b19, B64 (bdig (two R S)), 24), (g18, B32 (bdig S), 22), (b15, B32 (bdig R), 22), (b12, B32 (bdig r), 22), (b9, B64 (bdig z), 24), (b5, B32 (bdig y), 22), (b2, B32 (bdig c), 22), (bX, X, 5), (bR, B64 fun _ => 0, 24), (bA, B32 (bdig n), 22)] w V22 := hJ.1
  clear hJ
  simp only [putL, Lv.val, Act.put, List.setIfInBounds_toArray, List.set_cons_succ, List.set_cons_zero]
  go_wp2_with (first
    | refine wpList_load_own (by rfl) 24 (.tmp 12) (by rfl) b19 (by rfl) (B64 (bdig (two R S))) _ (hK.at b19 (B64 (bdig (two R S))) 24 (.head _)) Tryz.underlying24 (by rfl) (B64_info _) ?_
    | refine wpList_store_own (op := { dst := none, op := _, type := _, pos := _, after := _, guard := _ }) rfl 24 (.tmp 4) (.tmp 42) rfl bR 0 (B64 (bdig (two R S))) (by rfl) (by rfl) (hK.at bR (B64 fun _ => 0) 24 (.tail _ (.tail _ (.tail _ (.tail _ (.tail _ (.tail _ (.tail _ (.tail _ (.head _)))))))))) (B64_le _ _) (B64_info _) (B64_one _) (by rfl) ?_)
  exact bodyPost_ret (results_own Tryz.results24 _ _ bR (B64 (bdig (two R S))) _ (by rfl) (own_setCells (hK.at bR (B64 fun _ => 0) 24 (.tail _ (.tail _ (.tail _ (.tail _ (.tail _ (.tail _ (.tail _ (.tail _ (.head _)))))))))) (B64_sizes _ _)) Tryz.underlying24 rfl (B64_info _)) rfl ⟨rfl, Below.setCells _ _ _ _ le_bR.out hK.2⟩
end Go.Proofs.YtgibllaifnnfkaaGreatDoor
namespace Go.Proofs.YtgibllaifnnfkaaGreatDoor
open Go Go.RowKit
set_option maxRecDepth 100000 in
set_option maxHeartbeats 1000000 in
theorem pverify_gen {p R S k t : Nat} {f g : Nat → Nat} {rq : N4} {u0 u1 u2 u3 v0 v : Bool} {ta : Option Addr} {tc : Nat} {m : List Int} (lR : Hid (R < R256)) (lS : Hid (S < R256)) (Hk : Hid (dn (by32 R ++ (by32 p ++ m)) % LL = k)) (hS : Hid (decide (S < LL) = u0))
    (hD : Hid (∀ w, Calls Tryz.prog 36 #[.agg (B32 (bdig R))] w fun x w' => x = .returned (.tuple #[.agg (PA rq), .bool u1]) ∧ Below w.heap.size w w')) (hM : Hid (∀ w, Calls Tryz.prog 37 #[.agg (B32 (bdig k)), .agg (B32 (bdig p))] w fun x w' => x = .returned (.tuple #[.agg (B32 f), .bool u2]) ∧ Below w.heap.size w w')) (hA : Hid (u1 = true → u2 = true → (∀ w, Calls Tryz.prog 39 #[.agg (B32 (bdig R)), .agg (B32 f)] w fun x w' => x = .returned (.tuple #[.agg (B32 g), .bool u3]) ∧ Below w.heap.size w w')))
    (Ht : Hid (enc (Pt.times S BP) = t)) (heq : ∀ w, (Op.equalIn 10000 22 (.agg (B32 g)) (.agg (B32 (bdig t)))).run Tryz.prog w = .ok v0 w)
    (h0 : Hid (u0 = false → v = false)) (h1 : Hid (u1 = false → v = false)) (h2 : Hid (u2 = false → v = false)) (h3 : Hid (u0 = true → u1 = true → u2 = true → v0 = v)) (hl : m.length ≤ 1000) (w : World) (hm : Txt w ta tc m) : Calls Tryz.prog 19 #[.agg (B32 (bdig p)), .slice ta m.length tc, .agg (B64 (bdig (two R S)))] w fun x w' => x = .returned (.bool v) ∧ Below w.heap.size w w' := by
  have hz := (zero_of_info zeroB32).1
  have hzP := (zero_of_info zeroPA).1
  have hbl : Hid (∀ w, Calls Tryz.prog 35 #[.agg (B32 (bdig S))] w fun x w' => x = .returned (.bool u0) ∧ Below w.heap.size w w') := fun w => by rw [← hS.out]; exact below_any S lS.out w
  have hbs : Hid (∀ w, Calls Tryz.prog 40 #[.agg (B32 (bdig S))] w fun x w' => x = .returned (.agg (B32 (bdig t))) ∧ Below w.heap.size w w') := fun w => by rw [← Ht.out]; exact pbase S lS.out w
  go_enter Tryz.func19, Tryz.ntmps19
  go_upto_region 1 with fail
  have hK := ((Kp.nil w).alloc (B32 (bdig p)) 22).alloc (B64 (bdig (two R S))) 24
  rw [World.size_alloc] at hK
  generalize (w.alloc (.cells (B32 (bdig p)) 22)).alloc (.cells (B64 (bdig (two R S))) 24) = W at *
  obtain ⟨bA, HbA⟩ : ∃ b, Hid (w.heap.size = b) := ⟨_, rfl⟩
  obtain ⟨bS, HbS⟩ : ∃ b, Hid (bA + 1 = b) := ⟨_, rfl⟩
  have le_bA : Hid (w.heap.size ≤ bA) := by show _ ≤ _; have := HbA.out; omega
  have le_bS : Hid (w.heap.size ≤ bS) := by show _ ≤ _; have := HbA.out; have := HbS.out; omega
  have ne_bA_bS : Hid (bA ≠ bS) := by show _ ≠ _; have := HbS.out; omega
  rw [HbA.out, HbS.out] at hK ⊢
  go_upto_region 2 with fail
  have lt_bS := (hK.at bS (B64 (bdig (two R S))) 24 (.head _)).lt
  have lt_bA := (hK.at bA (B32 (bdig p)) 22 (.tail _ (.head _))).lt
  have le_b1 := show Hid _ from hK.2.size
  have hK := (hK.alloc (B32 fun _ => 0) 22).alloc (B32 fun _ => 0) 22
  rw [World.size_alloc] at hK
  obtain ⟨b1, Hb1⟩ : ∃ b, Hid (W.heap.size = b) := ⟨_, rfl⟩
  obtain ⟨b2, Hb2⟩ : ∃ b, Hid (b1 + 1 = b) := ⟨_, rfl⟩
  have le_b1 : Hid (w.heap.size ≤ b1) := by show _ ≤ _; rw [← Hb1.out]; exact le_b1.out
  have le_b2 : Hid (w.heap.size ≤ b2) := by show _ ≤ _; have := Hb2.out; have := le_b1.out; omega
  have ne_bS_b1 : Hid (bS ≠ b1) := by show _ ≠ _; have := Hb1.out; omega
  have ne_bS_b2 : Hid (bS ≠ b2) := by show _ ≠ _; have := Hb1.out; have := Hb2.out; omega
  have ne_bA_b1 : Hid (bA ≠ b1) := by show _ ≠ _; have := Hb1.out; omega
  have ne_bA_b2 : Hid (bA ≠ b2) := by show _ ≠ _; have := Hb1.out; have := Hb2.out; omega
  have ne_b1_b2 : Hid (b1 ≠ b2) := by show _ ≠ _; have := Hb2.out; omega
  clear lt_bS lt_bA
  rw [Hb1.out, Hb2.out] at hK
  rw [Hb1.out, Hb2.out]
  generalize (W.alloc (.cells (B32 fun _ => 0) 22)).alloc (.cells (B32 fun _ => 0) 22) = V3 at *
  refine wp_region_lv 50 (fun L => [(b2, B32 fun _ => 0, 22), (b1, if L 2 = true then B32 (bdig R) else B32 fun _ => 0, 22), (bS, B64 (bdig (two R S)), 24), (bA, B32 (bdig p), 22)]) [.v (.slice (some ⟨b1, 0, none⟩) 32 32), .v (.slice (some ⟨bS, 0, none⟩) 32 64), .v (.int .i64 (32))] hK (by kernel_rfl) (by kernel_rfl) (by kernel_rfl) (by rfl) ?_ ?_
  · exact .c (.p1 7 (.pointer (some ⟨b1, 0, none⟩))) <| .c (.p1 5 (.pointer (some ⟨bS, 0, none⟩))) <| .c (.xr [(13, .slice (some ⟨b1, 0, none⟩) 32 32), (14, .slice (some ⟨bS, 0, none⟩) 32 64)] b1 (.nx (fun _ => rfl) (fun _ => rfl) (fun _ => Ne.symm ne_b1_b2.out) <| .hr (fun _ => rfl) (fun _ => rfl) (fun _ => fc ne_bS_b1 <| fc ne_bA_b1 <| fn)) le_b1.out fun _ ac wc _ _ hfx _ hkx hjo hx => by have f13 := hfx _ (.head _); have f14 := hfx _ (.tail _ (.head _)); have hrg : wc.rangeAt bS 0 (B32 (bdig R)).toList := (B64_lo2 lR.out (hkx.at bS (B64 (bdig (two R S))) 24 (.tail _ (.tail _ (.head _))))); refine wp_copy_at (.tmp 13) (.tmp 14) 23 23 rfl 5 Tryz.underlying23 infoU8s b1 0 32 32 bS 0 32 64 f13 f14 hjo _ hrg (by rw [B32_len0]; rfl) (by rw [B32_len0, B32_size]; decide) (B32_ones _) ?_; rw [join32 R, B32_len0]; exact hx _ rfl) .nil
  intro _ V4 hJ _
  have hK : Kp [(b2, B32 fun _ => 0, 22), (b1, B32 (bdig R), 22), (bS, B64 (bdig (two R S)), 24), (bA, B32 (bdig p), 22)] w V4 := hJ.1
  clear hJ
  simp only [putL, Lv.val, Act.put, List.setIfInBounds_toArray, List.set_cons_succ, List.set_cons_zero]
  go_upto_region 3 with fail
  refine wp_region_lv 50 (fun L => [(b2, if L 2 = true then B32 (bdig S) else B32 fun _ => 0, 22), (b1, B32 (bdig R), 22), (bS, B64 (bdig (two R S)), 24), (bA, B32 (bdig p), 22)]) [.v (.slice (some ⟨b2, 0, none⟩) 32 32), .v (.slice (some ⟨bS, 32, none⟩) 32 32), .v (.int .i64 (32))] hK (by kernel_rfl) (by kernel_rfl) (by kernel_rfl) (by rfl) ?_ ?_
  · exact .c (.p1 8 (.pointer (some ⟨b2, 0, none⟩))) <| .c (.p1 5 (.pointer (some ⟨bS, 0, none⟩))) <| .c (.xr [(16, .slice (some ⟨b2, 0, none⟩) 32 32), (17, .slice (some ⟨bS, 32, none⟩) 32 32)] b2 (.hr (fun _ => rfl) (fun _ => rfl) (fun _ => fc ne_b1_b2 <| fc ne_bS_b2 <| fc ne_bA_b2 <| fn)) le_b2.out fun _ ac wc _ _ hfx _ hkx hjo hx => by have f16 := hfx _ (.head _); have f17 := hfx _ (.tail _ (.head _)); have hrg : wc.rangeAt bS 32 (B32 (bdig S)).toList := (B64_hi2 lR.out (hkx.at bS (B64 (bdig (two R S))) 24 (.tail _ (.tail _ (.head _))))); refine wp_copy_at (.tmp 16) (.tmp 17) 23 23 rfl 5 Tryz.underlying23 infoU8s b2 0 32 32 bS 32 32 32 f16 f17 hjo _ hrg (by rw [B32_len0]; rfl) (by rw [B32_len0, B32_size]; decide) (B32_ones _) ?_; rw [join32 S, B32_len0]; exact hx _ rfl) .nil
  intro _ V5 hJ _
  have hK : Kp [(b2, B32 (bdig S), 22), (b1, B32 (bdig R), 22), (bS, B64 (bdig (two R S)), 24), (bA, B32 (bdig p), 22)] w V5 := hJ.1
  clear hJ
  simp only [putL, Lv.val, Act.put, List.setIfInBounds_toArray, List.set_cons_succ, List.set_cons_zero]
  go_wp2_with (refine wpList_load_own (by rfl) 22 (.tmp 8) (by rfl) b2 (by rfl) (B32 (bdig S)) _ (hK.at b2 (B32 (bdig S)) 22 (.head _)) Tryz.underlying22 (by rfl) (B32_info _) ?_)
  refine (hbl.out _).mono ?_
  rintro e V6 ⟨rfl, bw⟩
  have hK := hK.below bw
  clear bw
  cases u0
  · go_wp2_with fail
    go_ret
    exact ⟨by first | rfl | (rw [h0.out (by simp)]; rfl), hK.2⟩
  go_upto_region 6 with fail
  go_wp2_with (refine wpList_load_own (by rfl) 22 (.tmp 7) (by rfl) b1 (by rfl) (B32 (bdig R)) _ (hK.at b1 (B32 (bdig R)) 22 (.tail _ (.head _))) Tryz.underlying22 (by rfl) (B32_info _) ?_)
  refine (hD.out _).mono ?_
  rintro e V7 ⟨rfl, bw⟩
  have hK := hK.below bw
  clear bw
  go_upto_region 7 with (refine wpList_store_new (by rfl) 56 (.tmp 9) (.tmp 25) (by rfl) _ (PA rq) (by rfl) (by rfl) (PA_info _) (PA_sizes _ _) (PA_one _) (by rfl) ?_)
  have lt_b2 := (hK.at b2 (B32 (bdig S)) 22 (.head _)).lt
  have lt_b1 := (hK.at b1 (B32 (bdig R)) 22 (.tail _ (.head _))).lt
  have lt_bS := (hK.at bS (B64 (bdig (two R S))) 24 (.tail _ (.tail _ (.head _)))).lt
  have lt_bA := (hK.at bA (B32 (bdig p)) 22 (.tail _ (.tail _ (.tail _ (.head _))))).lt
  have le_b8 := show Hid _ from hK.2.size
  have hK := hK.alloc (PA rq) 56
  generalize V7.alloc (.cells (PA rq) 56) = V9 at *
  obtain ⟨b8, Hb8⟩ : ∃ b, Hid (V7.heap.size = b) := ⟨_, rfl⟩
  have ne_b2_b8 : Hid (b2 ≠ b8) := by show _ ≠ _; rw [← Hb8.out]; exact Nat.ne_of_lt lt_b2
  have ne_b1_b8 : Hid (b1 ≠ b8) := by show _ ≠ _; rw [← Hb8.out]; exact Nat.ne_of_lt lt_b1
  have ne_bS_b8 : Hid (bS ≠ b8) := by show _ ≠ _; rw [← Hb8.out]; exact Nat.ne_of_lt lt_bS
  have ne_bA_b8 : Hid (bA ≠ b8) := by show _ ≠ _; rw [← Hb8.out]; exact Nat.ne_of_lt lt_bA
  have le_b8 : Hid (w.heap.size ≤ b8) := by show _ ≤ _; rw [← Hb8.out]; exact le_b8.out
  rw [Hb8.out] at hK ⊢
  clear lt_b2 lt_b1 lt_bS lt_bA
  cases u1
  · go_wp2_with fail
    go_ret
    exact ⟨by first | rfl | (rw [h1.out (by simp)]; rfl), hK.2⟩
  go_upto_region 9 with fail
  refine wp_region_lv 50 (fun _ => [(b8, PA rq, 56), (b2, B32 (bdig S), 22), (b1, B32 (bdig R), 22), (bS, B64 (bdig (two R S)), 24), (bA, B32 (bdig p), 22)]) [.v (.agg (B32 (bdig R))), .v (.agg (B32 (bdig p))), .v (.slice ta m.length tc), .v (.agg (B32 (bdig k))), .v (.agg (B32 (bdig p))), .v (.tuple #[.agg (B32 f), .bool u2]), .v (.tuple #[.agg (B32 f), .bool u2]), .v (.agg (B32 f)), .v (.bool u2), .mk (B32 fun _ => 0) (B32 f) 22 10, .o, .v (.bool u2)] hK (by kernel_rfl) (by kernel_rfl) (by kernel_rfl) (by rfl) ?_ ?_
  · exact .c (.ld b1 (fun _ => .tail _ (.tail _ (.head _))) Tryz.underlying22 rfl (B32_info _)) <| .c (.ld bA (fun _ => .tail _ (.tail _ (.tail _ (.tail _ (.head _))))) Tryz.underlying22 rfl (B32_info _)) <| .c (.p1 1 (.slice ta m.length tc)) <| .c (.ca fun _ _ hkx => challenge_at Hk hl _ (hm.below hkx.2)) <| .c (.ld bA (fun _ => .tail _ (.tail _ (.tail _ (.tail _ (.head _))))) Tryz.underlying22 rfl (B32_info _)) <| .c (.ca fun _ _ _ => hM.out _) <| .c (.p1 35 (.tuple #[.agg (B32 f), .bool u2])) <| .c (.p1 29 (.tuple #[.agg (B32 f), .bool u2])) <| .c (.p1 29 (.tuple #[.agg (B32 f), .bool u2])) <| .c (.al hz) <| .c (.st 9 (B32_info _) (B32_one _)) <| .c (.p1 37 (.bool u2)) .nil
  intro vs V10 hJ hf
  obtain ⟨g11, hgg11⟩ := hf 9 _ _ rfl rfl
  obtain ⟨le0, apg11, owng11⟩ := hJ.got 9 hgg11
  have le_g11 := show Hid _ from le0
  clear le0
  have ne_b8_g11 : Hid (b8 ≠ g11) := apg11 (b8, PA rq, 56) (.head _)
  have ne_b2_g11 : Hid (b2 ≠ g11) := apg11 (b2, B32 (bdig S), 22) (.tail _ (.head _))
  have ne_b1_g11 : Hid (b1 ≠ g11) := apg11 (b1, B32 (bdig R), 22) (.tail _ (.tail _ (.head _)))
  have ne_bS_g11 : Hid (bS ≠ g11) := apg11 (bS, B64 (bdig (two R S)), 24) (.tail _ (.tail _ (.tail _ (.head _))))
  have ne_bA_g11 : Hid (bA ≠ g11) := apg11 (bA, B32 (bdig p), 22) (.tail _ (.tail _ (.tail _ (.tail _ (.head _)))))
  have hK : Kp [(g11, B32 f, 22), (b8, PA rq, 56), (b2, B32 (bdig S), 22), (b1, B32 (bdig R), 22), (bS, B64 (bdig (two R S)), 24), (bA, B32 (bdig p), 22)] w V10 := (hJ.1.cons owng11)
  simp only [putL, Lv.val, Nat.zero_add, Nat.reduceAdd, hgg11, Act.put, List.setIfInBounds_toArray, List.set_cons_succ, List.set_cons_zero]
  clear hJ hf hgg11 apg11 owng11
  cases u2
  · go_wp2_with fail
    go_ret
    exact ⟨by first | rfl | (rw [h2.out (by simp)]; rfl), hK.2⟩
  go_upto_region 12 with fail
  go_wp2_with (first
    | refine wpList_load_own (by rfl) 22 (.tmp 7) (by rfl) b1 (by rfl) (B32 (bdig R)) _ (hK.at b1 (B32 (bdig R)) 22 (.tail _ (.tail _ (.tail _ (.head _))))) Tryz.underlying22 (by rfl) (B32_info _) ?_
    | refine wpList_load_own (by rfl) 22 (.tmp 11) (by rfl) g11 (by rfl) (B32 f) _ (hK.at g11 (B32 f) 22 (.head _)) Tryz.underlying22 (by rfl) (B32_info _) ?_)
  refine (hA.out (by simp) (by simp) _).mono ?_
  rintro e V12 ⟨rfl, bw⟩
  have hK := hK.below bw
  clear bw
  go_upto_region 13 with (refine wpList_store_own (op := { dst := none, op := _, type := _, pos := _, after := _, guard := _ }) rfl 22 (.tmp 11) (.tmp 44) rfl g11 0 (B32 g) (by rfl) (by rfl) (hK.at g11 (B32 f) 22 (.head _)) (B32_le _ _) (B32_info _) (B32_one _) (by rfl) ?_)
  have hK : Kp [(g11, B32 f, 22), (b8, PA rq, 56), (b2, B32 (bdig S), 22), (b1, B32 (bdig R), 22), (bS, B64 (bdig (two R S)), 24), (bA, B32 (bdig p), 22)] w V12 := ((((((hK.none.cons (hK.at bA (B32 (bdig p)) 22 (.tail _ (.tail _ (.tail _ (.tail _ (.tail _ (.head _)))))))).cons (hK.at bS (B64 (bdig (two R S))) 24 (.tail _ (.tail _ (.tail _ (.tail _ (.head _))))))).cons (hK.at b1 (B32 (bdig R)) 22 (.tail _ (.tail _ (.tail _ (.head _)))))).cons (hK.at b2 (B32 (bdig S)) 22 (.tail _ (.tail _ (.head _))))).cons (hK.at b8 (PA rq) 56 (.tail _ (.head _)))).cons (hK.at g11 (B32 f) 22 (.head _)))
  have hK := Kp.set (A' := B32 g) hK (by simp only [List.forall_mem_cons, List.not_mem_nil, false_implies, implies_true, and_true]; exact ⟨ne_b8_g11.out, ne_b2_g11.out, ne_b1_g11.out, ne_bS_g11.out, ne_bA_g11.out⟩) le_g11.out (B32_sizes _ _)
  generalize V12.setCells g11 0 (B32 g).toList = V13 at *
  refine wp_region_lv 50 (fun _ => [(g11, B32 g, 22), (b8, PA rq, 56), (b2, B32 (bdig S), 22), (b1, B32 (bdig R), 22), (bS, B64 (bdig (two R S)), 24), (bA, B32 (bdig p), 22)]) [.v (.agg (B32 g)), .v (.agg (B32 (bdig S))), .v (.agg (B32 (bdig t))), .v (.bool v0), .v (.bool v0)] hK (by kernel_rfl) (by kernel_rfl) (by kernel_rfl) (by rfl) ?_ ?_
  · exact .c (.ld g11 (fun _ => .head _) Tryz.underlying22 rfl (B32_info _)) <| .c (.ld b2 (fun _ => .tail _ (.tail _ (.head _))) Tryz.underlying22 rfl (B32_info _)) <| .c (.ca fun _ _ _ => hbs.out _) <| .c (.p2 46 (.agg (B32 g)) 48 (.agg (B32 (bdig t)))) <| .c (.p1 49 (.bool v0)) .nil
  intro _ V14 hJ _
  have hK : Kp [(g11, B32 g, 22), (b8, PA rq, 56), (b2, B32 (bdig S), 22), (b1, B32 (bdig R), 22), (bS, B64 (bdig (two R S)), 24), (bA, B32 (bdig p), 22)] w V14 := hJ.1
  clear hJ
  simp only [putL, Lv.val, Act.put, List.setIfInBounds_toArray, List.set_cons_succ, List.set_cons_zero]
  go_wp2
  go_ret
  exact ⟨by first | rfl | (rw [h3.out (by simp) (by simp) (by simp)]; rfl), hK.2⟩
end Go.Proofs.YtgibllaifnnfkaaGreatDoor
namespace Go.Proofs.YtgibllaifnnfkaaGreatDoor
open Go Go.RowKit
theorem pverify_is {p R S : Nat} {ta : Option Addr} {tc : Nat} {m : List Int} (lp : p < R256) (lR : R < R256) (lS : S < R256) (hl : m.length ≤ 1000) (w : World) (hm : Txt w ta tc m) : Calls Tryz.prog 19 #[.agg (B32 (bdig p)), .slice ta m.length tc, .agg (B64 (bdig (two R S)))] w fun x w' => x = .returned (.bool (signedB p m R S)) ∧ Below w.heap.size w w' := by
  have lk : bindOf R p m < R256 := lt_of_modL
  have lt := enc_R7 (Pt.times S BP)
  have z0 : B32 (fun _ => 0) = B32 (bdig 0) := B32_ext fun i _ => (bdig_zero i).symm
  by_cases hR : ∃ Q : Pt E5, enc Q = R
  · obtain ⟨Q, rfl⟩ := hR
    obtain ⟨rq, -, -, hD⟩ := page_dec Q
    by_cases hp : ∃ P : Pt E5, enc P = p
    · obtain ⟨P, rfl⟩ := hp
      refine pverify_gen lR lS rfl rfl (fun w => hD w) (fun w => ptimes _ lk P w) (fun _ _ w => psum Q _ w) rfl (fun w => B32_eq _ _ (enc_R7 _) lt w) (fun h => signedB_low h) (fun h => by cases h) (fun h => by cases h) (fun h _ _ => ?_) hl w hm
      exact (signedB_pts (of_decide_eq_true h) rfl rfl).symm
    · have hn : ∀ P : Pt E5, enc P ≠ p := fun P e => hp ⟨P, e⟩
      exact pverify_gen (g := bdig 0) (u3 := true) lR lS rfl rfl (fun w => hD w) (fun w => ptimes_not _ lp hn w) (fun _ h => by cases h) rfl (fun w => B32_eq _ _ (by decide) lt w) (fun h => signedB_low h) (fun h => by cases h) (fun _ => signedB_nop hn) (fun _ _ h => by cases h) hl w hm
  · have hn : ∀ Q : Pt E5, enc Q ≠ R := fun Q e => hR ⟨Q, e⟩
    by_cases hp : ∃ P : Pt E5, enc P = p
    · obtain ⟨P, rfl⟩ := hp
      exact pverify_gen (g := bdig 0) (u3 := true) lR lS rfl rfl (fun w => page_dec_not lR hn w) (fun w => ptimes _ lk P w) (fun h => by cases h) rfl (fun w => B32_eq _ _ (by decide) lt w) (fun h => signedB_low h) (fun _ => signedB_nor hn) (fun h => by cases h) (fun _ h => by cases h) hl w hm
    · have hn2 : ∀ P : Pt E5, enc P ≠ p := fun P e => hp ⟨P, e⟩
      exact pverify_gen (g := bdig 0) (u3 := true) lR lS rfl rfl (fun w => page_dec_not lR hn w) (fun w => ptimes_not _ lp hn2 w) (fun h => by cases h) rfl (fun w => B32_eq _ _ (by decide) lt w) (fun h => signedB_low h) (fun _ => signedB_nor hn) (fun _ => signedB_nop hn2) (fun _ h => by cases h) hl w hm
end Go.Proofs.YtgibllaifnnfkaaGreatDoor
namespace Go.Proofs.YtgibllaifnnfkaaGreatDoor
open Go Go.RowKit
theorem ppublic_is (n : Nat) (w : World) : Calls Tryz.prog 21 #[.agg (B32 (bdig n))] w fun x w' => x = .returned (.agg (B32 (bdig (pubOf n)))) ∧ Below w.heap.size w w' :=
  ppublic_at (lo := dn (by32 n) % R256) (hi := preOf n) (c := numOf n) (two_parts _).symm (lo_lt _) rfl rfl w
theorem psign_is (n : Nat) {ta : Option Addr} {tc : Nat} {m : List Int} (hl : m.length ≤ 1000) (w : World) (hm : Txt w ta tc m) : Calls Tryz.prog 24 #[.agg (B32 (bdig n)), .slice ta m.length tc] w fun x w' => x = .returned (.agg (B64 (bdig (sigOf n m)))) ∧ Below w.heap.size w w' :=
  psign_at (lo := dn (by32 n) % R256) (hi := preOf n) (c := numOf n) (y := pubOf n) (r := onceOf n m) (R := rOf n m) (k := bindOf (rOf n m) (pubOf n) m) (S := sOf n m) (two_parts _).symm (lo_lt _) rfl rfl rfl rfl rfl rfl hl w hm
end Go.Proofs.YtgibllaifnnfkaaGreatDoor
