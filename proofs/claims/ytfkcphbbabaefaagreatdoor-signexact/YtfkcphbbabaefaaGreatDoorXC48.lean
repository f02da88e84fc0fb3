/- Of the texts SS2: what the card of this claim reaches. -/
import Derived.Test.YtfkcphbbabaefaaGreatDoorXC42
import Derived.Test.YtfkcphbbabaefaaGreatDoorXC47
import Derived.Test.YtfkcphbbabaefaaGreatDoorXC38
namespace Go.Proofs.YtfkcphbbabaefaaGreatDoor
open Go Go.RowKit
def factPs6 (c y r R k S : Nat) (ta : Option Addr) (tc : Nat) (m : List Int) : Nat → Value → Prop
  | 0, vq => vq = .agg (B32 (bdig R))
  | 1, vq => vq = .agg (B32 (bdig y))
  | 2, vq => vq = .slice ta m.length tc
  | 3, vq => vq = .agg (B32 (bdig k))
  | 4, vq => vq = .agg (B32 (bdig c))
  | 5, vq => vq = .agg (B32 (bdig r))
  | 6, vq => vq = .agg (B32 (bdig S))
  | 7, vq => ∃ g, vq = .pointer (some ⟨g, 0, none⟩)
  | _, _ => True
def valPs8 (b19 b15 : Nat) : Nat → Value
  | 0 => .slice (some ⟨b19, 0, none⟩) 32 64
  | 1 => .slice (some ⟨b15, 0, none⟩) 32 32
  | 2 => .int .i64 (32)
  | _ => undef
def valPs9 (b19 g18 : Nat) : Nat → Value
  | 0 => .slice (some ⟨b19, 32, none⟩) 32 32
  | 1 => .slice (some ⟨g18, 0, none⟩) 32 32
  | 2 => .int .i64 (32)
  | _ => undef
set_option maxRecDepth 100000 in
set_option maxHeartbeats 1000000 in
theorem psign_at {n lo hi c y r R k S : Nat} {ta : Option Addr} {tc : Nat} {m : List Int} (Hd : Hid (dn (by32 n) = two lo hi)) (llo : Hid (lo < R256)) (Hc : Hid (clamp lo = c)) (Hy : Hid (enc (Pt.times c BP) = y)) (Hr : Hid (dn (by32 hi ++ m) % LL = r)) (HR : Hid (enc (Pt.times r BP) = R)) (Hk : Hid (dn (by32 R ++ (by32 y ++ m)) % LL = k)) (HS : Hid ((k * c + r) % LL = S)) (hl : m.length ≤ 1000) (w : World) (hm : Txt w ta tc m) : Calls Tryz.prog 9 #[.agg (B32 (bdig n)), .slice ta m.length tc] w fun x w' => x = .returned (.agg (B64 (bdig (two R S)))) ∧ Below w.heap.size w w' := by
  have hz := (zero_of_info zeroB32).1
  have hz64 := (zero_of_info zeroB64).1
  have lc : Hid (c < R256) := by show _ < _; rw [← Hc.out]; exact clamp_lt _
  have lr : Hid (r < R256) := by show _ < _; rw [← Hr.out]; exact lt_of_modL
  have lk : Hid (k < R256) := by show _ < _; rw [← Hk.out]; exact lt_of_modL
  have lR : Hid (R < R256) := by show _ < _; rw [← HR.out, R256_HH]; exact enc_lt _
  have hbs : Hid (∀ w, Calls Tryz.prog 23 #[.agg (B32 (bdig c))] w fun x w' => x = .returned (.agg (B32 (bdig y))) ∧ Below w.heap.size w w') := fun w => by rw [← Hy.out]; exact pbase c lc.out w
  have hbr : Hid (∀ w, Calls Tryz.prog 23 #[.agg (B32 (bdig r))] w fun x w' => x = .returned (.agg (B32 (bdig R))) ∧ Below w.heap.size w w') := fun w => by rw [← HR.out]; exact pbase r lr.out w
  have hma : Hid (∀ w, Calls Tryz.prog 27 #[.agg (B32 (bdig k)), .agg (B32 (bdig c)), .agg (B32 (bdig r))] w fun x w' => x = .returned (.agg (B32 (bdig S))) ∧ Below w.heap.size w w') := fun w => by rw [← HS.out]; exact muladd_any k c r lk.out lc.out lr.out w
  obtain ⟨l, Hl⟩ : ∃ l, Hid (by32 hi ++ m = l) := ⟨_, rfl⟩
  obtain ⟨z, Hz⟩ : ∃ z, Hid (dn l = z) := ⟨_, rfl⟩
  have hzl : Hid (z < R512) := by show _ < _; rw [← Hz.out]; exact dn_lt _
  have hzr : Hid (z % LL = r) := by show _ = _; rw [← Hz.out, ← Hl.out]; exact Hr.out
  have hfl : Hid ([by32 hi, m].flatten = l) := by show _ = _; rw [← Hl.out]; simp
  have hln : Hid (l.length ≤ 1000000) := by show _ ≤ _; rw [← Hl.out, List.length_append, by32_length]; omega
  go_enter Tryz.func9, Tryz.ntmps9
  go_upto_region 1 with fail
  have hK := ((Kp.nil w).alloc (B32 (bdig n)) 22).alloc (B64 fun _ => 0) 26
  rw [World.size_alloc] at hK
  generalize (w.alloc (.cells (B32 (bdig n)) 22)).alloc (.cells (B64 fun _ => 0) 26) = W at *
  obtain ⟨bA, HbA⟩ : ∃ b, Hid (w.heap.size = b) := ⟨_, rfl⟩
  obtain ⟨bR, HbR⟩ : ∃ b, Hid (bA + 1 = b) := ⟨_, rfl⟩
  have le_bA : Hid (w.heap.size ≤ bA) := by show _ ≤ _; have := HbA.out; omega
  have le_bR : Hid (w.heap.size ≤ bR) := by show _ ≤ _; have := HbA.out; have := HbR.out; omega
  have ne_bA_bR : Hid (bA ≠ bR) := by show _ ≠ _; have := HbR.out; omega
  rw [HbA.out, HbR.out] at hK ⊢
  go_wp2_with (refine wpList_load_own (by rfl) 22 (.tmp 2) (by rfl) bA (by rfl) (B32 (bdig n)) _ (hK.at bA (B32 (bdig n)) 22 (.tail _ (.head _))) Tryz.underlying22 (by rfl) (B32_info _) ?_)
  have lt_bR := (hK.at bR (B64 fun _ => 0) 26 (.head _)).lt
  have lt_bA := (hK.at bA (B32 (bdig n)) 22 (.tail _ (.head _))).lt
  refine (seeded_at Hd llo Hc _).mono ?_
  rintro e V1 ⟨ja, jc, bX, X, rfl, hTx, oX, leX, bw⟩
  have ne_bR_bX : Hid (bR ≠ bX) := Nat.ne_of_lt (Nat.lt_of_lt_of_le lt_bR leX)
  have ne_bA_bX : Hid (bA ≠ bX) := Nat.ne_of_lt (Nat.lt_of_lt_of_le lt_bA leX)
  have hK := (hK.below bw).cons oX
  replace hTx := show Hid _ from hTx
  clear bw oX leX lt_bR lt_bA
  go_upto_region 2 with (refine wpList_store_new (by rfl) 22 (.tmp 5) (.tmp 16) (by rfl) _ (B32 (bdig c)) (by rfl) (by rfl) (B32_info _) (B32_sizes _ _) (B32_one _) (by rfl) ?_)
  have lt_bX := (hK.at bX (X) 5 (.head _)).lt
  have lt_bR := (hK.at bR (B64 fun _ => 0) 26 (.tail _ (.head _))).lt
  have lt_bA := (hK.at bA (B32 (bdig n)) 22 (.tail _ (.tail _ (.head _)))).lt
  have le_b2 := show Hid _ from hK.2.size
  have hK := hK.alloc (B32 (bdig c)) 22
  generalize V1.alloc (.cells (B32 (bdig c)) 22) = V3 at *
  obtain ⟨b2, Hb2⟩ : ∃ b, Hid (V1.heap.size = b) := ⟨_, rfl⟩
  have ne_bX_b2 : Hid (bX ≠ b2) := by show _ ≠ _; rw [← Hb2.out]; exact Nat.ne_of_lt lt_bX
  have ne_bR_b2 : Hid (bR ≠ b2) := by show _ ≠ _; rw [← Hb2.out]; exact Nat.ne_of_lt lt_bR
  have ne_bA_b2 : Hid (bA ≠ b2) := by show _ ≠ _; rw [← Hb2.out]; exact Nat.ne_of_lt lt_bA
  have le_b2 : Hid (w.heap.size ≤ b2) := by show _ ≤ _; rw [← Hb2.out]; exact le_b2.out
  rw [Hb2.out] at hK ⊢
  clear lt_bX lt_bR lt_bA
  go_wp2_with (refine wpList_load_own (by rfl) 22 (.tmp 5) (by rfl) b2 (by rfl) (B32 (bdig c)) _ (hK.at b2 (B32 (bdig c)) 22 (.head _)) Tryz.underlying22 (by rfl) (B32_info _) ?_)
  refine (hbs.out _).mono ?_
  rintro e V4 ⟨rfl, bw⟩
  have hK := hK.below bw
  clear bw
  go_upto_region 3 with (refine wpList_store_new (by rfl) 22 (.tmp 7) (.tmp 19) (by rfl) _ (B32 (bdig y)) (by rfl) (by rfl) (B32_info _) (B32_sizes _ _) (B32_one _) (by rfl) ?_)
  have lt_b2 := (hK.at b2 (B32 (bdig c)) 22 (.head _)).lt
  have lt_bX := (hK.at bX (X) 5 (.tail _ (.head _))).lt
  have lt_bR := (hK.at bR (B64 fun _ => 0) 26 (.tail _ (.tail _ (.head _)))).lt
  have lt_bA := (hK.at bA (B32 (bdig n)) 22 (.tail _ (.tail _ (.tail _ (.head _))))).lt
  have le_b5 := show Hid _ from hK.2.size
  have hK := hK.alloc (B32 (bdig y)) 22
  generalize V4.alloc (.cells (B32 (bdig y)) 22) = V6 at *
  obtain ⟨b5, Hb5⟩ : ∃ b, Hid (V4.heap.size = b) := ⟨_, rfl⟩
  have ne_b2_b5 : Hid (b2 ≠ b5) := by show _ ≠ _; rw [← Hb5.out]; exact Nat.ne_of_lt lt_b2
  have ne_bX_b5 : Hid (bX ≠ b5) := by show _ ≠ _; rw [← Hb5.out]; exact Nat.ne_of_lt lt_bX
  have ne_bR_b5 : Hid (bR ≠ b5) := by show _ ≠ _; rw [← Hb5.out]; exact Nat.ne_of_lt lt_bR
  have ne_bA_b5 : Hid (bA ≠ b5) := by show _ ≠ _; rw [← Hb5.out]; exact Nat.ne_of_lt lt_bA
  have le_b5 : Hid (w.heap.size ≤ b5) := by show _ ≤ _; rw [← Hb5.out]; exact le_b5.out
  rw [Hb5.out] at hK ⊢
  clear lt_b2 lt_bX lt_bR lt_bA
  go_wp2_with fail
  have hb := hTx.out _ (hK.at bX (X) 5 (.tail _ (.tail _ (.head _))))
  have hq := rows2 hb.1 hb.2 (hm.below hK.2).1 hm.2
  clear hb
  have hK := hK.below (alloc_below V6 (.cells #[.slice ja 32 jc, .slice ta m.length tc] 23))
  refine (pjoin hfl.out hln.out _ hq).mono ?_
  rintro e V7 ⟨aj, cj, rfl, hv, hnn, bw⟩
  have hK := hK.below bw
  clear bw hq
  go_wp2_with fail
  refine (psum512 Hz.out hln.out _ ⟨hv, hnn⟩).mono ?_
  rintro e V8 ⟨rfl, bw⟩
  have hK := hK.below bw
  clear bw hv hnn
  go_upto_region 4 with (refine wpList_store_new (by rfl) 26 (.tmp 8) (.tmp 24) (by rfl) _ (B64 (bdig z)) (by rfl) (by rfl) (B64_info _) (B64_sizes _ _) (B64_one _) (by rfl) ?_)
  have lt_b5 := (hK.at b5 (B32 (bdig y)) 22 (.head _)).lt
  have lt_b2 := (hK.at b2 (B32 (bdig c)) 22 (.tail _ (.head _))).lt
  have lt_bX := (hK.at bX (X) 5 (.tail _ (.tail _ (.head _)))).lt
  have lt_bR := (hK.at bR (B64 fun _ => 0) 26 (.tail _ (.tail _ (.tail _ (.head _))))).lt
  have lt_bA := (hK.at bA (B32 (bdig n)) 22 (.tail _ (.tail _ (.tail _ (.tail _ (.head _)))))).lt
  have le_b9 := show Hid _ from hK.2.size
  have hK := hK.alloc (B64 (bdig z)) 26
  generalize V8.alloc (.cells (B64 (bdig z)) 26) = V10 at *
  obtain ⟨b9, Hb9⟩ : ∃ b, Hid (V8.heap.size = b) := ⟨_, rfl⟩
  have ne_b5_b9 : Hid (b5 ≠ b9) := by show _ ≠ _; rw [← Hb9.out]; exact Nat.ne_of_lt lt_b5
  have ne_b2_b9 : Hid (b2 ≠ b9) := by show _ ≠ _; rw [← Hb9.out]; exact Nat.ne_of_lt lt_b2
  have ne_bX_b9 : Hid (bX ≠ b9) := by show _ ≠ _; rw [← Hb9.out]; exact Nat.ne_of_lt lt_bX
  have ne_bR_b9 : Hid (bR ≠ b9) := by show _ ≠ _; rw [← Hb9.out]; exact Nat.ne_of_lt lt_bR
  have ne_bA_b9 : Hid (bA ≠ b9) := by show _ ≠ _; rw [← Hb9.out]; exact Nat.ne_of_lt lt_bA
  have le_b9 : Hid (w.heap.size ≤ b9) := by show _ ≤ _; rw [← Hb9.out]; exact le_b9.out
  rw [Hb9.out] at hK ⊢
  clear lt_b5 lt_b2 lt_bX lt_bR lt_bA
  go_wp2_with fail
  refine (pmodL64 (hK.at b9 (B64 (bdig z)) 26 (.head _)) hzl.out hzr.out).mono ?_
  rintro e V11 ⟨rfl, bw⟩
  have hK := hK.below bw
  clear bw
  go_upto_region 5 with (refine wpList_store_new (by rfl) 22 (.tmp 9) (.tmp 26) (by rfl) _ (B32 (bdig r)) (by rfl) (by rfl) (B32_info _) (B32_sizes _ _) (B32_one _) (by rfl) ?_)
  have lt_b9 := (hK.at b9 (B64 (bdig z)) 26 (.head _)).lt
  have lt_b5 := (hK.at b5 (B32 (bdig y)) 22 (.tail _ (.head _))).lt
  have lt_b2 := (hK.at b2 (B32 (bdig c)) 22 (.tail _ (.tail _ (.head _)))).lt
  have lt_bX := (hK.at bX (X) 5 (.tail _ (.tail _ (.tail _ (.head _))))).lt
  have lt_bR := (hK.at bR (B64 fun _ => 0) 26 (.tail _ (.tail _ (.tail _ (.tail _ (.head _)))))).lt
  have lt_bA := (hK.at bA (B32 (bdig n)) 22 (.tail _ (.tail _ (.tail _ (.tail _ (.tail _ (.head _))))))).lt
  have le_b12 := show Hid _ from hK.2.size
  have hK := hK.alloc (B32 (bdig r)) 22
  generalize V11.alloc (.cells (B32 (bdig r)) 22) = V13 at *
  obtain ⟨b12, Hb12⟩ : ∃ b, Hid (V11.heap.size = b) := ⟨_, rfl⟩
  have ne_b9_b12 : Hid (b9 ≠ b12) := by show _ ≠ _; rw [← Hb12.out]; exact Nat.ne_of_lt lt_b9
  have ne_b5_b12 : Hid (b5 ≠ b12) := by show _ ≠ _; rw [← Hb12.out]; exact Nat.ne_of_lt lt_b5
  have ne_b2_b12 : Hid (b2 ≠ b12) := by show _ ≠ _; rw [← Hb12.out]; exact Nat.ne_of_lt lt_b2
  have ne_bX_b12 : Hid (bX ≠ b12) := by show _ ≠ _; rw [← Hb12.out]; exact Nat.ne_of_lt lt_bX
  have ne_bR_b12 : Hid (bR ≠ b12) := by show _ ≠ _; rw [← Hb12.out]; exact Nat.ne_of_lt lt_bR
  have ne_bA_b12 : Hid (bA ≠ b12) := by show _ ≠ _; rw [← Hb12.out]; exact Nat.ne_of_lt lt_bA
  have le_b12 : Hid (w.heap.size ≤ b12) := by show _ ≤ _; rw [← Hb12.out]; exact le_b12.out
  rw [Hb12.out] at hK ⊢
  clear lt_b9 lt_b5 lt_b2 lt_bX lt_bR lt_bA
  go_wp2_with (refine wpList_load_own (by rfl) 22 (.tmp 9) (by rfl) b12 (by rfl) (B32 (bdig r)) _ (hK.at b12 (B32 (bdig r)) 22 (.head _)) Tryz.underlying22 (by rfl) (B32_info _) ?_)
  refine (hbr.out _).mono ?_
  rintro e V14 ⟨rfl, bw⟩
  have hK := hK.below bw
  clear bw
  go_upto_region 6 with (refine wpList_store_new (by rfl) 22 (.tmp 10) (.tmp 28) (by rfl) _ (B32 (bdig R)) (by rfl) (by rfl) (B32_info _) (B32_sizes _ _) (B32_one _) (by rfl) ?_)
  have lt_b12 := (hK.at b12 (B32 (bdig r)) 22 (.head _)).lt
  have lt_b9 := (hK.at b9 (B64 (bdig z)) 26 (.tail _ (.head _))).lt
  have lt_b5 := (hK.at b5 (B32 (bdig y)) 22 (.tail _ (.tail _ (.head _)))).lt
  have lt_b2 := (hK.at b2 (B32 (bdig c)) 22 (.tail _ (.tail _ (.tail _ (.head _))))).lt
  have lt_bX := (hK.at bX (X) 5 (.tail _ (.tail _ (.tail _ (.tail _ (.head _)))))).lt
  have lt_bR := (hK.at bR (B64 fun _ => 0) 26 (.tail _ (.tail _ (.tail _ (.tail _ (.tail _ (.head _))))))).lt
  have lt_bA := (hK.at bA (B32 (bdig n)) 22 (.tail _ (.tail _ (.tail _ (.tail _ (.tail _ (.tail _ (.head _)))))))).lt
  have le_b15 := show Hid _ from hK.2.size
  have hK := hK.alloc (B32 (bdig R)) 22
  generalize V14.alloc (.cells (B32 (bdig R)) 22) = V16 at *
  obtain ⟨b15, Hb15⟩ : ∃ b, Hid (V14.heap.size = b) := ⟨_, rfl⟩
  have ne_b12_b15 : Hid (b12 ≠ b15) := by show _ ≠ _; rw [← Hb15.out]; exact Nat.ne_of_lt lt_b12
  have ne_b9_b15 : Hid (b9 ≠ b15) := by show _ ≠ _; rw [← Hb15.out]; exact Nat.ne_of_lt lt_b9
  have ne_b5_b15 : Hid (b5 ≠ b15) := by show _ ≠ _; rw [← Hb15.out]; exact Nat.ne_of_lt lt_b5
  have ne_b2_b15 : Hid (b2 ≠ b15) := by show _ ≠ _; rw [← Hb15.out]; exact Nat.ne_of_lt lt_b2
  have ne_bX_b15 : Hid (bX ≠ b15) := by show _ ≠ _; rw [← Hb15.out]; exact Nat.ne_of_lt lt_bX
  have ne_bR_b15 : Hid (bR ≠ b15) := by show _ ≠ _; rw [← Hb15.out]; exact Nat.ne_of_lt lt_bR
  have ne_bA_b15 : Hid (bA ≠ b15) := by show _ ≠ _; rw [← Hb15.out]; exact Nat.ne_of_lt lt_bA
  have le_b15 : Hid (w.heap.size ≤ b15) := by show _ ≤ _; rw [← Hb15.out]; exact le_b15.out
  rw [Hb15.out] at hK ⊢
  clear lt_b12 lt_b9 lt_b5 lt_b2 lt_bX lt_bR lt_bA
  refine wp_region_told 43 (by kernel_rfl) (by kernel_rfl) (by rfl) (factPs6 c y r R k S ta tc m) (fun L vs => MkN 1 [(b15, B32 (bdig R), 22), (b12, B32 (bdig r), 22), (b9, B64 (bdig z), 26), (b5, B32 (bdig y), 22), (b2, B32 (bdig c), 22), (bX, X, 5), (bR, B64 fun _ => 0, 26), (bA, B32 (bdig n), 22)] w (fun _ => B32 fun _ => 0) (fun _ => B32 (bdig S)) (fun _ => 22) (fun i => L (7 + i)) (fun i => L (8 + i)) (fun i => vs (7 + i))) (fun _ => MkN.drew hK (fun _ _ => rfl)) ?_ ?_
  · intro L vs ac wc i o hF hLi ho hd K hK
    rcases i with _ | _ | _ | _ | _ | _ | _ | _ | _ | i
    · have ho' := ho
      obtain rfl := Option.some.inj ho
      have f10 : ac.tmps.getD 10 undef = .pointer (some ⟨b15, 0, none⟩) := slott hF 0 hLi 10 (by kernel_rfl)
      refine step_do ho' (wanted_free rfl) ?_
      exact wp_load_own 22 (.tmp 10) rfl b15 f10 (B32 (bdig R)) _ 22 (hF.j.1.at b15 (B32 (bdig R)) 22 (.head _)) Tryz.underlying22 rfl (B32_info _) (hK _ _ (.inr rfl) (hF.j.congr (fun i hi => if_off (by decide) hi) (fun i hi => if_off (by decide) hi) (fun i hi => if_off (by decide) hi)))
    · have ho' := ho
      obtain rfl := Option.some.inj ho
      have f7 : ac.tmps.getD 7 undef = .pointer (some ⟨b5, 0, none⟩) := slott hF 1 hLi 7 (by kernel_rfl)
      refine step_do ho' (wanted_free rfl) ?_
      exact wp_load_own 22 (.tmp 7) rfl b5 f7 (B32 (bdig y)) _ 22 (hF.j.1.at b5 (B32 (bdig y)) 22 (.tail _ (.tail _ (.tail _ (.head _))))) Tryz.underlying22 rfl (B32_info _) (hK _ _ (.inr rfl) (hF.j.congr (fun i hi => if_off (by decide) hi) (fun i hi => if_off (by decide) hi) (fun i hi => if_off (by decide) hi)))
    · have ho' := ho
      obtain rfl := Option.some.inj ho
      have f1 : ac.tmps.getD 1 undef = .slice ta m.length tc := slott hF 2 hLi 1 (by kernel_rfl)
      refine step_do ho' (wanted_free rfl) ?_
      unfold Oper.wp
      go_simp
      exact hK _ _ (.inr rfl) (hF.j.congr (fun i hi => if_off (by decide) hi) (fun i hi => if_off (by decide) hi) (fun i hi => if_off (by decide) hi))
    · have ho' := ho
      obtain rfl := Option.some.inj ho
      have f29 : ac.tmps.getD 29 undef = .agg (B32 (bdig R)) := (factt hF hd 0 rfl rfl (by kernel_rfl)).1.trans (factt hF hd 0 rfl rfl (by kernel_rfl)).2
      have f30 : ac.tmps.getD 30 undef = .agg (B32 (bdig y)) := (factt hF hd 1 rfl rfl (by kernel_rfl)).1.trans (factt hF hd 1 rfl rfl (by kernel_rfl)).2
      have f31 : ac.tmps.getD 31 undef = .slice ta m.length tc := (factt hF hd 2 rfl rfl (by kernel_rfl)).1.trans (factt hF hd 2 rfl rfl (by kernel_rfl)).2
      refine step_do ho' (wanted_free rfl) ?_
      unfold Oper.wp
      go_simp
      refine (challenge_at Hk hl _ (hm.below hF.j.1.2)).mono ?_
      rintro e w' ⟨rfl, hB⟩
      exact hK _ _ (.inr rfl) (((hF.j.congr (fun i hi => if_off (by decide) hi) (fun i hi => if_off (by decide) hi) (fun i hi => if_off (by decide) hi))).below hB)
    · have ho' := ho
      obtain rfl := Option.some.inj ho
      have f5 : ac.tmps.getD 5 undef = .pointer (some ⟨b2, 0, none⟩) := slott hF 4 hLi 5 (by kernel_rfl)
      refine step_do ho' (wanted_free rfl) ?_
      exact wp_load_own 22 (.tmp 5) rfl b2 f5 (B32 (bdig c)) _ 22 (hF.j.1.at b2 (B32 (bdig c)) 22 (.tail _ (.tail _ (.tail _ (.tail _ (.head _)))))) Tryz.underlying22 rfl (B32_info _) (hK _ _ (.inr rfl) (hF.j.congr (fun i hi => if_off (by decide) hi) (fun i hi => if_off (by decide) hi) (fun i hi => if_off (by decide) hi)))
    · have ho' := ho
      obtain rfl := Option.some.inj ho
      have f9 : ac.tmps.getD 9 undef = .pointer (some ⟨b12, 0, none⟩) := slott hF 5 hLi 9 (by kernel_rfl)
      refine step_do ho' (wanted_free rfl) ?_
      exact wp_load_own 22 (.tmp 9) rfl b12 f9 (B32 (bdig r)) _ 22 (hF.j.1.at b12 (B32 (bdig r)) 22 (.tail _ (.head _))) Tryz.underlying22 rfl (B32_info _) (hK _ _ (.inr rfl) (hF.j.congr (fun i hi => if_off (by decide) hi) (fun i hi => if_off (by decide) hi) (fun i hi => if_off (by decide) hi)))
    · have ho' := ho
      obtain rfl := Option.some.inj ho
      have f32 : ac.tmps.getD 32 undef = .agg (B32 (bdig k)) := (factt hF hd 3 rfl rfl (by kernel_rfl)).1.trans (factt hF hd 3 rfl rfl (by kernel_rfl)).2
      have f33 : ac.tmps.getD 33 undef = .agg (B32 (bdig c)) := (factt hF hd 4 rfl rfl (by kernel_rfl)).1.trans (factt hF hd 4 rfl rfl (by kernel_rfl)).2
      have f34 : ac.tmps.getD 34 undef = .agg (B32 (bdig r)) := (factt hF hd 5 rfl rfl (by kernel_rfl)).1.trans (factt hF hd 5 rfl rfl (by kernel_rfl)).2
      refine step_do ho' (wanted_free rfl) ?_
      unfold Oper.wp
      go_simp
      refine (hma.out _).mono ?_
      rintro e w' ⟨rfl, hB⟩
      exact hK _ _ (.inr rfl) (((hF.j.congr (fun i hi => if_off (by decide) hi) (fun i hi => if_off (by decide) hi) (fun i hi => if_off (by decide) hi))).below hB)
    · have ho' := ho
      obtain rfl := Option.some.inj ho
      refine step_do ho' (wanted_free rfl) ?_
      have hs := notyett hF 7 hLi 8 rfl (by kernel_rfl)
      unfold Oper.wp
      go_simp
      exact hK _ _ (.inr ⟨_, rfl⟩) (hF.j.alloc 0 (fun i _ hne => if_oth (k := 0) rfl hne) (fun i hi => if_off (by decide) hi) (fun i _ hne => if_oth (k := 0) rfl hne) rfl hs)
    · have ho' := ho
      obtain rfl := Option.some.inj ho
      have f35 : ac.tmps.getD 35 undef = .agg (B32 (bdig S)) := (factt hF hd 6 rfl rfl (by kernel_rfl)).1.trans (factt hF hd 6 rfl rfl (by kernel_rfl)).2
      refine step_do ho' (wanted_free rfl) ?_
      obtain ⟨fg, gq, hg⟩ := factt hF hd 7 rfl rfl (by kernel_rfl)
      have hm_ := dep hd 7 (by kernel_rfl)
      have hj := hF.j
      rw [hg] at fg
      have hj2 := hj.at (k := 0) (by decide) hm_ hg hLi
      refine wp_store_own 22 (.tmp 11) (.tmp 35) rfl gq (B32 (bdig S)) fg f35 hj2.2.2 (B32_sizes _ _) (B32_info _) (B32_one _) rfl ?_
      exact hK undef _ (.inl rfl) (hj.storeA (k := 0) (A := B32 (bdig S)) rfl (by decide) hm_ hg hLi (B32_sizes _ _) (fun i hi => if_off (by decide) hi) (fun i _ hne => if_oth (k := 0) rfl hne) (fun i hi => if_off (by decide) hi) rfl)
    · cases ho
  intro L vs V17 hL hJ hf
  obtain ⟨g18, hgg18⟩ := hf 7 _ _ rfl rfl
  obtain ⟨le0, apg18, owng18⟩ := hJ.gotA (k := 0) (A := B32 (bdig S)) rfl (by decide) (hL 7 (by decide)) hgg18 (hL 8 (by decide))
  have le_g18 := show Hid _ from le0
  clear le0
  have ne_b15_g18 : Hid (b15 ≠ g18) := apg18 (b15, B32 (bdig R), 22) (.head _)
  have ne_b12_g18 : Hid (b12 ≠ g18) := apg18 (b12, B32 (bdig r), 22) (.tail _ (.head _))
  have ne_b9_g18 : Hid (b9 ≠ g18) := apg18 (b9, B64 (bdig z), 26) (.tail _ (.tail _ (.head _)))
  have ne_b5_g18 : Hid (b5 ≠ g18) := apg18 (b5, B32 (bdig y), 22) (.tail _ (.tail _ (.tail _ (.head _))))
  have ne_b2_g18 : Hid (b2 ≠ g18) := apg18 (b2, B32 (bdig c), 22) (.tail _ (.tail _ (.tail _ (.tail _ (.head _)))))
  have ne_bX_g18 : Hid (bX ≠ g18) := apg18 (bX, X, 5) (.tail _ (.tail _ (.tail _ (.tail _ (.tail _ (.head _))))))
  have ne_bR_g18 : Hid (bR ≠ g18) := apg18 (bR, B64 fun _ => 0, 26) (.tail _ (.tail _ (.tail _ (.tail _ (.tail _ (.tail _ (.head _)))))))
  have ne_bA_g18 : Hid (bA ≠ g18) := apg18 (bA, B32 (bdig n), 22) (.tail _ (.tail _ (.tail _ (.tail _ (.tail _ (.tail _ (.tail _ (.head _))))))))
  have hK : Kp [(g18, B32 (bdig S), 22), (b15, B32 (bdig R), 22), (b12, B32 (bdig r), 22), (b9, B64 (bdig z), 26), (b5, B32 (bdig y), 22), (b2, B32 (bdig c), 22), (bX, X, 5), (bR, B64 fun _ => 0, 26), (bA, B32 (bdig n), 22)] w V17 := (hJ.1.cons owng18)
  have e0 : vs 0 = _ := hf 0 _ _ rfl rfl
  have e1 : vs 1 = _ := hf 1 _ _ rfl rfl
  have e2 : vs 2 = _ := hf 2 _ _ rfl rfl
  have e3 : vs 3 = _ := hf 3 _ _ rfl rfl
  have e4 : vs 4 = _ := hf 4 _ _ rfl rfl
  have e5 : vs 5 = _ := hf 5 _ _ rfl rfl
  have e6 : vs 6 = _ := hf 6 _ _ rfl rfl
  simp only [putAll, Nat.zero_add, Nat.reduceAdd, e0, e1, e2, e3, e4, e5, e6, hgg18, Act.put, List.setIfInBounds_toArray, List.set_cons_succ, List.set_cons_zero]
  clear hJ hf hL e0 e1 e2 e3 e4 e5 e6 hgg18 apg18 owng18
  go_upto_region 8 with fail
  have lt_g18 := (hK.at g18 (B32 (bdig S)) 22 (.head _)).lt
  have lt_b15 := (hK.at b15 (B32 (bdig R)) 22 (.tail _ (.head _))).lt
  have lt_b12 := (hK.at b12 (B32 (bdig r)) 22 (.tail _ (.tail _ (.head _)))).lt
  have lt_b9 := (hK.at b9 (B64 (bdig z)) 26 (.tail _ (.tail _ (.tail _ (.head _))))).lt
  have lt_b5 := (hK.at b5 (B32 (bdig y)) 22 (.tail _ (.tail _ (.tail _ (.tail _ (.head _)))))).lt
  have lt_b2 := (hK.at b2 (B32 (bdig c)) 22 (.tail _ (.tail _ (.tail _ (.tail _ (.tail _ (.head _))))))).lt
  have lt_bX := (hK.at bX (X) 5 (.tail _ (.tail _ (.tail _ (.tail _ (.tail _ (.tail _ (.head _)))))))).lt
  have lt_bR := (hK.at bR (B64 fun _ => 0) 26 (.tail _ (.tail _ (.tail _ (.tail _ (.tail _ (.tail _ (.tail _ (.head _))))))))).lt
  have lt_bA := (hK.at bA (B32 (bdig n)) 22 (.tail _ (.tail _ (.tail _ (.tail _ (.tail _ (.tail _ (.tail _ (.tail _ (.head _)))))))))).lt
  have le_b19 := show Hid _ from hK.2.size
  have hK := hK.alloc (B64 fun _ => 0) 26
  generalize V17.alloc (.cells (B64 fun _ => 0) 26) = V20 at *
  obtain ⟨b19, Hb19⟩ : ∃ b, Hid (V17.heap.size = b) := ⟨_, rfl⟩
  have ne_g18_b19 : Hid (g18 ≠ b19) := by show _ ≠ _; rw [← Hb19.out]; exact Nat.ne_of_lt lt_g18
  have ne_b15_b19 : Hid (b15 ≠ b19) := by show _ ≠ _; rw [← Hb19.out]; exact Nat.ne_of_lt lt_b15
  have ne_b12_b19 : Hid (b12 ≠ b19) := by show _ ≠ _; rw [← Hb19.out]; exact Nat.ne_of_lt lt_b12
  have ne_b9_b19 : Hid (b9 ≠ b19) := by show _ ≠ _; rw [← Hb19.out]; exact Nat.ne_of_lt lt_b9
  have ne_b5_b19 : Hid (b5 ≠ b19) := by show _ ≠ _; rw [← Hb19.out]; exact Nat.ne_of_lt lt_b5
  have ne_b2_b19 : Hid (b2 ≠ b19) := by show _ ≠ _; rw [← Hb19.out]; exact Nat.ne_of_lt lt_b2
  have ne_bX_b19 : Hid (bX ≠ b19) := by show _ ≠ _; rw [← Hb19.out]; exact Nat.ne_of_lt lt_bX
  have ne_bR_b19 : Hid (bR ≠ b19) := by show _ ≠ _; rw [← Hb19.out]; exact Nat.ne_of_lt lt_bR
  have ne_bA_b19 : Hid (bA ≠ b19) := by show _ ≠ _; rw [← Hb19.out]; exact Nat.ne_of_lt lt_bA
  have le_b19 : Hid (w.heap.size ≤ b19) := by show _ ≤ _; rw [← Hb19.out]; exact le_b19.out
  rw [Hb19.out] at hK ⊢
  clear lt_g18 lt_b15 lt_b12 lt_b9 lt_b5 lt_b2 lt_bX lt_bR lt_bA
  refine wp_region_vals 43 (by kernel_rfl) (by kernel_rfl) (by rfl) (valPs8 b19 b15) (fun L => Kp [(b19, if L 2 = true then B64 (bdig (two R 0)) else B64 fun _ => 0, 26), (g18, B32 (bdig S), 22), (b15, B32 (bdig R), 22), (b12, B32 (bdig r), 22), (b9, B64 (bdig z), 26), (b5, B32 (bdig y), 22), (b2, B32 (bdig c), 22), (bX, X, 5), (bR, B64 fun _ => 0, 26), (bA, B32 (bdig n), 22)] w) hK.drew ?_ ?_
  · intro L ac wc i o hF hLi ho hd K hK
    rcases i with _ | _ | _ | i
    · have ho' := ho
      obtain rfl := Option.some.inj ho
      have f12 : ac.tmps.getD 12 undef = .pointer (some ⟨b19, 0, none⟩) := slotv hF 0 hLi 12 (by kernel_rfl)
      refine step_do ho' (wanted_free rfl) ?_
      unfold Oper.wp
      go_simp
      exact hK _ _ (.inr rfl) hF.j
    · have ho' := ho
      obtain rfl := Option.some.inj ho
      have f10 : ac.tmps.getD 10 undef = .pointer (some ⟨b15, 0, none⟩) := slotv hF 1 hLi 10 (by kernel_rfl)
      refine step_do ho' (wanted_free rfl) ?_
      unfold Oper.wp
      go_simp
      exact hK _ _ (.inr rfl) hF.j
    · have ho' := ho
      obtain rfl := Option.some.inj ho
      have f36 : ac.tmps.getD 36 undef = .slice (some ⟨b19, 0, none⟩) 32 64 := valv hF hd 0 rfl rfl (by kernel_rfl)
      have f37 : ac.tmps.getD 37 undef = .slice (some ⟨b15, 0, none⟩) 32 32 := valv hF hd 1 rfl rfl (by kernel_rfl)
      refine step_do ho' (wanted_free rfl) ?_
      have hjo := hF.j
      rw [hLi] at hjo
      have hjo : Own wc b19 (B64 fun _ => 0) 26 := hjo.at b19 (B64 fun _ => 0) 26 (.head _)
      have hrg : wc.rangeAt b15 0 (B32 (bdig R)).toList := (hF.j.at b15 (B32 (bdig R)) 22 (.tail _ (.tail _ (.head _)))).range
      refine wp_copy_at (.tmp 36) (.tmp 37) 23 23 rfl 5 Tryz.underlying23 infoU8s b19 0 32 64 b15 0 32 32 f36 f37 hjo _ hrg (by rw [B32_len0]; rfl) (by rw [B32_len0, B64_size]; decide) (B32_ones _) ?_
      rw [join_lo lR.out, B32_len0]
      have hj := hF.j
      rw [hLi] at hj
      have hj : Kp [(b19, B64 fun _ => 0, 26), (g18, B32 (bdig S), 22), (b15, B32 (bdig R), 22), (b12, B32 (bdig r), 22), (b9, B64 (bdig z), 26), (b5, B32 (bdig y), 22), (b2, B32 (bdig c), 22), (bX, X, 5), (bR, B64 fun _ => 0, 26), (bA, B32 (bdig n), 22)] w wc := hj
      have hj : Kp [(b19, B64 fun _ => 0, 26), (g18, B32 (bdig S), 22), (b15, B32 (bdig R), 22), (b12, B32 (bdig r), 22), (b9, B64 (bdig z), 26), (b5, B32 (bdig y), 22), (b2, B32 (bdig c), 22), (bX, X, 5), (bR, B64 fun _ => 0, 26), (bA, B32 (bdig n), 22)] w wc := ((((((((((hj.none.cons (hj.at bA (B32 (bdig n)) 22 (.tail _ (.tail _ (.tail _ (.tail _ (.tail _ (.tail _ (.tail _ (.tail _ (.tail _ (.head _)))))))))))).cons (hj.at bR (B64 fun _ => 0) 26 (.tail _ (.tail _ (.tail _ (.tail _ (.tail _ (.tail _ (.tail _ (.tail _ (.head _))))))))))).cons (hj.at bX (X) 5 (.tail _ (.tail _ (.tail _ (.tail _ (.tail _ (.tail _ (.tail _ (.head _)))))))))).cons (hj.at b2 (B32 (bdig c)) 22 (.tail _ (.tail _ (.tail _ (.tail _ (.tail _ (.tail _ (.head _))))))))).cons (hj.at b5 (B32 (bdig y)) 22 (.tail _ (.tail _ (.tail _ (.tail _ (.tail _ (.head _)))))))).cons (hj.at b9 (B64 (bdig z)) 26 (.tail _ (.tail _ (.tail _ (.tail _ (.head _))))))).cons (hj.at b12 (B32 (bdig r)) 22 (.tail _ (.tail _ (.tail _ (.head _)))))).cons (hj.at b15 (B32 (bdig R)) 22 (.tail _ (.tail _ (.head _))))).cons (hj.at g18 (B32 (bdig S)) 22 (.tail _ (.head _)))).cons (hj.at b19 (B64 fun _ => 0) 26 (.head _)))
      have hj := Kp.row (A' := B64 (bdig (two R 0))) hj (by simp only [List.forall_mem_cons, List.not_mem_nil, false_implies, implies_true, and_true]; exact ⟨ne_g18_b19.out, ne_b15_b19.out, ne_b12_b19.out, ne_b9_b19.out, ne_b5_b19.out, ne_b2_b19.out, ne_bX_b19.out, ne_bR_b19.out, ne_bA_b19.out⟩) le_b19.out
      exact hK _ _ (.inr rfl) ((((((((((hj.none.cons (hj.at bA (B32 (bdig n)) 22 (.tail _ (.tail _ (.tail _ (.tail _ (.tail _ (.tail _ (.tail _ (.tail _ (.tail _ (.head _)))))))))))).cons (hj.at bR (B64 fun _ => 0) 26 (.tail _ (.tail _ (.tail _ (.tail _ (.tail _ (.tail _ (.tail _ (.tail _ (.head _))))))))))).cons (hj.at bX (X) 5 (.tail _ (.tail _ (.tail _ (.tail _ (.tail _ (.tail _ (.tail _ (.head _)))))))))).cons (hj.at b2 (B32 (bdig c)) 22 (.tail _ (.tail _ (.tail _ (.tail _ (.tail _ (.tail _ (.head _))))))))).cons (hj.at b5 (B32 (bdig y)) 22 (.tail _ (.tail _ (.tail _ (.tail _ (.tail _ (.head _)))))))).cons (hj.at b9 (B64 (bdig z)) 26 (.tail _ (.tail _ (.tail _ (.tail _ (.head _))))))).cons (hj.at b12 (B32 (bdig r)) 22 (.tail _ (.tail _ (.tail _ (.head _)))))).cons (hj.at b15 (B32 (bdig R)) 22 (.tail _ (.tail _ (.head _))))).cons (hj.at g18 (B32 (bdig S)) 22 (.tail _ (.head _)))).cons (hj.at b19 (B64 (bdig (two R 0))) 26 (.head _)))
    · cases ho
  intro L V21 hL hKq
  rw [hL 2 (by decide)] at hKq
  have hK : Kp [(b19, B64 (bdig (two R 0)), 26), (g18, B32 (bdig S), 22), (b15, B32 (bdig R), 22), (b12, B32 (bdig r), 22), (b9, B64 (bdig z), 26), (b5, B32 (bdig y), 22), (b2, B32 (bdig c), 22), (bX, X, 5), (bR, B64 fun _ => 0, 26), (bA, B32 (bdig n), 22)] w V21 := hKq
  clear hKq hL
  simp only [putAll, valPs8, Act.put, List.setIfInBounds_toArray, List.set_cons_succ, List.set_cons_zero]
  go_upto_region 9 with fail
  refine wp_region_vals 43 (by kernel_rfl) (by kernel_rfl) (by rfl) (valPs9 b19 g18) (fun L => Kp [(b19, if L 2 = true then B64 (bdig (two R S)) else B64 (bdig (two R 0)), 26), (g18, B32 (bdig S), 22), (b15, B32 (bdig R), 22), (b12, B32 (bdig r), 22), (b9, B64 (bdig z), 26), (b5, B32 (bdig y), 22), (b2, B32 (bdig c), 22), (bX, X, 5), (bR, B64 fun _ => 0, 26), (bA, B32 (bdig n), 22)] w) hK.drew ?_ ?_
  · intro L ac wc i o hF hLi ho hd K hK
    rcases i with _ | _ | _ | i
    · have ho' := ho
      obtain rfl := Option.some.inj ho
      have f12 : ac.tmps.getD 12 undef = .pointer (some ⟨b19, 0, none⟩) := slotv hF 0 hLi 12 (by kernel_rfl)
      refine step_do ho' (wanted_free rfl) ?_
      unfold Oper.wp
      go_simp
      exact hK _ _ (.inr rfl) hF.j
    · have ho' := ho
      obtain rfl := Option.some.inj ho
      have f11 : ac.tmps.getD 11 undef = .pointer (some ⟨g18, 0, none⟩) := slotv hF 1 hLi 11 (by kernel_rfl)
      refine step_do ho' (wanted_free rfl) ?_
      unfold Oper.wp
      go_simp
      exact hK _ _ (.inr rfl) hF.j
    · have ho' := ho
      obtain rfl := Option.some.inj ho
      have f39 : ac.tmps.getD 39 undef = .slice (some ⟨b19, 32, none⟩) 32 32 := valv hF hd 0 rfl rfl (by kernel_rfl)
      have f40 : ac.tmps.getD 40 undef = .slice (some ⟨g18, 0, none⟩) 32 32 := valv hF hd 1 rfl rfl (by kernel_rfl)
      refine step_do ho' (wanted_free rfl) ?_
      have hjo := hF.j
      rw [hLi] at hjo
      have hjo : Own wc b19 (B64 (bdig (two R 0))) 26 := hjo.at b19 (B64 (bdig (two R 0))) 26 (.head _)
      have hrg : wc.rangeAt g18 0 (B32 (bdig S)).toList := (hF.j.at g18 (B32 (bdig S)) 22 (.tail _ (.head _))).range
      refine wp_copy_at (.tmp 39) (.tmp 40) 23 23 rfl 5 Tryz.underlying23 infoU8s b19 32 32 32 g18 0 32 32 f39 f40 hjo _ hrg (by rw [B32_len0]; rfl) (by rw [B32_len0, B64_size]; decide) (B32_ones _) ?_
      rw [join_hi lR.out S, B32_len0]
      have hj := hF.j
      rw [hLi] at hj
      have hj : Kp [(b19, B64 (bdig (two R 0)), 26), (g18, B32 (bdig S), 22), (b15, B32 (bdig R), 22), (b12, B32 (bdig r), 22), (b9, B64 (bdig z), 26), (b5, B32 (bdig y), 22), (b2, B32 (bdig c), 22), (bX, X, 5), (bR, B64 fun _ => 0, 26), (bA, B32 (bdig n), 22)] w wc := hj
      have hj : Kp [(b19, B64 (bdig (two R 0)), 26), (g18, B32 (bdig S), 22), (b15, B32 (bdig R), 22), (b12, B32 (bdig r), 22), (b9, B64 (bdig z), 26), (b5, B32 (bdig y), 22), (b2, B32 (bdig c), 22), (bX, X, 5), (bR, B64 fun _ => 0, 26), (bA, B32 (bdig n), 22)] w wc := ((((((((((hj.none.cons (hj.at bA (B32 (bdig n)) 22 (.tail _ (.tail _ (.tail _ (.tail _ (.tail _ (.tail _ (.tail _ (.tail _ (.tail _ (.head _)))))))))))).cons (hj.at bR (B64 fun _ => 0) 26 (.tail _ (.tail _ (.tail _ (.tail _ (.tail _ (.tail _ (.tail _ (.tail _ (.head _))))))))))).cons (hj.at bX (X) 5 (.tail _ (.tail _ (.tail _ (.tail _ (.tail _ (.tail _ (.tail _ (.head _)))))))))).cons (hj.at b2 (B32 (bdig c)) 22 (.tail _ (.tail _ (.tail _ (.tail _ (.tail _ (.tail _ (.head _))))))))).cons (hj.at b5 (B32 (bdig y)) 22 (.tail _ (.tail _ (.tail _ (.tail _ (.tail _ (.head _)))))))).cons (hj.at b9 (B64 (bdig z)) 26 (.tail _ (.tail _ (.tail _ (.tail _ (.head _))))))).cons (hj.at b12 (B32 (bdig r)) 22 (.tail _ (.tail _ (.tail _ (.head _)))))).cons (hj.at b15 (B32 (bdig R)) 22 (.tail _ (.tail _ (.head _))))).cons (hj.at g18 (B32 (bdig S)) 22 (.tail _ (.head _)))).cons (hj.at b19 (B64 (bdig (two R 0))) 26 (.head _)))
      have hj := Kp.row (A' := B64 (bdig (two R S))) hj (by simp only [List.forall_mem_cons, List.not_mem_nil, false_implies, implies_true, and_true]; exact ⟨ne_g18_b19.out, ne_b15_b19.out, ne_b12_b19.out, ne_b9_b19.out, ne_b5_b19.out, ne_b2_b19.out, ne_bX_b19.out, ne_bR_b19.out, ne_bA_b19.out⟩) le_b19.out
      exact hK _ _ (.inr rfl) ((((((((((hj.none.cons (hj.at bA (B32 (bdig n)) 22 (.tail _ (.tail _ (.tail _ (.tail _ (.tail _ (.tail _ (.tail _ (.tail _ (.tail _ (.head _)))))))))))).cons (hj.at bR (B64 fun _ => 0) 26 (.tail _ (.tail _ (.tail _ (.tail _ (.tail _ (.tail _ (.tail _ (.tail _ (.head _))))))))))).cons (hj.at bX (X) 5 (.tail _ (.tail _ (.tail _ (.tail _ (.tail _ (.tail _ (.tail _ (.head _)))))))))).cons (hj.at b2 (B32 (bdig c)) 22 (.tail _ (.tail _ (.tail _ (.tail _ (.tail _ (.tail _ (.head _))))))))).cons (hj.at b5 (B32 (bdig y)) 22 (.tail _ (.tail _ (.tail _ (.tail _ (.tail _ (.head _)))))))).cons (hj.at b9 (B64 (bdig z)) 26 (.tail _ (.tail _ (.tail _ (.tail _ (.head _))))))).cons (hj.at b12 (B32 (bdig r)) 22 (.tail _ (.tail _ (.tail _ (.head _)))))).cons (hj.at b15 (B32 (bdig R)) 22 (.tail _ (.tail _ (.head _))))).cons (hj.at g18 (B32 (bdig S)) 22 (.tail _ (.head _)))).cons (hj.at b19 (B64 (bdig (two R S))) 26 (.head _)))
    · cases ho
  intro L V22 hL hKq
  rw [hL 2 (by decide)] at hKq
  have hK : Kp [(b19, B64 (bdig (two R S)), 26), (g18, B32 (bdig S), 22), (b15, B32 (bdig R), 22), (b12, B32 (bdig r), 22), (b9, B64 (bdig z), 26), (b5, B32 (bdig y), 22), (b2, B32 (bdig c), 22), (bX, X, 5), (bR, B64 fun _ => 0, 26), (bA, B32 (bdig n), 22)] w V22 := hKq
  clear hKq hL
  simp only [putAll, valPs9, Act.put, List.setIfInBounds_toArray, List.set_cons_succ, List.set_cons_zero]
  go_wp2_with (first
    | refine wpList_load_own (by rfl) 26 (.tmp 12) (by rfl) b19 (by rfl) (B64 (bdig (two R S))) _ (hK.at b19 (B64 (bdig (two R S))) 26 (.head _)) Tryz.underlying26 (by rfl) (B64_info _) ?_
    | refine wpList_store_own (op := { dst := none, op := _, type := _, pos := _, after := _, guard := _ }) rfl 26 (.tmp 4) (.tmp 42) rfl bR 0 (B64 (bdig (two R S))) (by rfl) (by rfl) (hK.at bR (B64 fun _ => 0) 26 (.tail _ (.tail _ (.tail _ (.tail _ (.tail _ (.tail _ (.tail _ (.tail _ (.head _)))))))))) (B64_le _ _) (B64_info _) (B64_one _) (by rfl) ?_)
  exact bodyPost_ret (results_own Tryz.results9 _ _ bR (B64 (bdig (two R S))) _ (by rfl) (own_setCells (hK.at bR (B64 fun _ => 0) 26 (.tail _ (.tail _ (.tail _ (.tail _ (.tail _ (.tail _ (.tail _ (.tail _ (.head _)))))))))) (B64_sizes _ _)) Tryz.underlying26 rfl (B64_info _)) rfl ⟨rfl, Below.setCells _ _ _ _ le_bR.out hK.2⟩
end Go.Proofs.YtfkcphbbabaefaaGreatDoor
