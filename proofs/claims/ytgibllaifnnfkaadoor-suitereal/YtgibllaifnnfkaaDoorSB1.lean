/- The program's number that binds a signature. -/
import Derived.Test.YtgibllaifnnfkaaDoorSG1
namespace Go.Proofs.YtgibllaifnnfkaaDoor
open Go Go.RowKit
def factBound (z k bA bB : Nat) (ta : Option Addr) (tc : Nat) (m : List Int) : Nat → Value → Prop
  | 0, vq => vq = .slice (some ⟨bA, 0, none⟩) 32 32
  | 1, vq => vq = .slice (some ⟨bB, 0, none⟩) 32 32
  | 2, vq => vq = .slice ta m.length tc
  | 4, vq => vq = .agg (B64 (bdig z))
  | 5, vq => vq = .agg (B32 (bdig k))
  | 3, vq => ∃ aq, vq = .slice aq 3 3
  | _, _ => True
set_option maxRecDepth 100000 in
set_option maxHeartbeats 4000000 in
theorem bound_at {T : World → Prop} (F : Low T) {p q k : Nat} {ta : Option Addr} {tc : Nat} {m : List Int} (Hk : Hid (dn (by32 p ++ (by32 q ++ m)) % LL = k)) (hl : m.length ≤ 1000) (w : World) (hT : T w) (hm : Txt w ta tc m) : Calls Tryd.prog 21 #[.agg (B32 (bdig p)), .agg (B32 (bdig q)), .slice ta m.length tc] w fun x w' => x = .returned (.agg (B32 (bdig k))) ∧ Below w.heap.size w w' := by
  have hz := (zero_of_info zeroB32).1
  obtain ⟨z, Hz⟩ : ∃ z, Hid (dn (by32 p ++ (by32 q ++ m)) = z) := ⟨_, rfl⟩
  have hzl : z < R512 := by rw [← Hz.out]; exact dn_lt _
  have hzk : z % LL = k := by rw [← Hz.out]; exact Hk.out
  have hfl : [by32 p, by32 q, m].flatten = by32 p ++ (by32 q ++ m) := by simp
  have hln : (by32 p ++ (by32 q ++ m)).length ≤ 16000000 := by rw [List.length_append, List.length_append, by32_length, by32_length]; omega
  have hzl := show Hid _ from hzl
  have hzk := show Hid _ from hzk
  have hfl := show Hid _ from hfl
  have hln := show Hid _ from hln
  go_enter Tryd.func21, Tryd.ntmps21
  go_upto_region 1 with fail
  have hK := (((Kp.nil w).alloc (B32 (bdig p)) 22).alloc (B32 (bdig q)) 22).alloc (B32 fun _ => 0) 22
  rw [World.size_alloc, World.size_alloc] at hK
  generalize ((w.alloc (.cells (B32 (bdig p)) 22)).alloc (.cells (B32 (bdig q)) 22)).alloc (.cells (B32 fun _ => 0) 22) = W at *
  obtain ⟨bA, HbA⟩ : ∃ b, Hid (w.heap.size = b) := ⟨_, rfl⟩
  obtain ⟨bB, HbB⟩ : ∃ b, Hid (bA + 1 = b) := ⟨_, rfl⟩
  obtain ⟨bR, HbR⟩ : ∃ b, Hid (bB + 1 = b) := ⟨_, rfl⟩
  have le_bA : Hid (w.heap.size ≤ bA) := by show _ ≤ _; have := HbA.out; omega
  have le_bB : Hid (w.heap.size ≤ bB) := by show _ ≤ _; have := HbA.out; have := HbB.out; omega
  have le_bR : Hid (w.heap.size ≤ bR) := by show _ ≤ _; have := HbA.out; have := HbB.out; have := HbR.out; omega
  have ne_bA_bB : Hid (bA ≠ bB) := by show _ ≠ _; have := HbB.out; omega
  have ne_bA_bR : Hid (bA ≠ bR) := by show _ ≠ _; have := HbB.out; have := HbR.out; omega
  have ne_bB_bR : Hid (bB ≠ bR) := by show _ ≠ _; have := HbR.out; omega
  rw [HbA.out, HbB.out, HbR.out] at hK ⊢
  refine wp_region_told 13 (by kernel_rfl) (by kernel_rfl) (by rfl) (factBound z k bA bB ta tc m) (fun L vs wq => Kp [(bR, if L 6 = true then B32 (bdig k) else B32 fun _ => 0, 22), (bB, B32 (bdig q), 22), (bA, B32 (bdig p), 22)] w wq ∧ (L 3 = true → L 4 = false → ∃ aq, vs 3 = .slice aq 3 3 ∧ H.RowsV wq aq 3 3 [by32 p, by32 q, m])) (fun _ => ⟨hK.drew, fun h => by cases h⟩) ?_ ?_
  · intro L vs ac wc i o hF hLi ho hd K hK
    rcases i with _ | _ | _ | _ | _ | _ | _ | i
    · have ho' := ho
      obtain rfl := Option.some.inj ho
      have f3 : ac.tmps.getD 3 undef = .pointer (some ⟨bA, 0, none⟩) := slott hF 0 hLi 3 (by kernel_rfl)
      refine step_do ho' (wanted_free rfl) ?_
      unfold Oper.wp
      go_simp
      exact hK _ _ (.inr rfl) ⟨hF.j.1, hF.j.2⟩
    · have ho' := ho
      obtain rfl := Option.some.inj ho
      have f4 : ac.tmps.getD 4 undef = .pointer (some ⟨bB, 0, none⟩) := slott hF 1 hLi 4 (by kernel_rfl)
      refine step_do ho' (wanted_free rfl) ?_
      unfold Oper.wp
      go_simp
      exact hK _ _ (.inr rfl) ⟨hF.j.1, hF.j.2⟩
    · have ho' := ho
      obtain rfl := Option.some.inj ho
      have f2 : ac.tmps.getD 2 undef = .slice ta m.length tc := slott hF 2 hLi 2 (by kernel_rfl)
      refine step_do ho' (wanted_free rfl) ?_
      unfold Oper.wp
      go_simp
      exact hK _ _ (.inr rfl) ⟨hF.j.1, hF.j.2⟩
    · have ho' := ho
      obtain rfl := Option.some.inj ho
      have f7 : ac.tmps.getD 7 undef = .slice (some ⟨bA, 0, none⟩) 32 32 := (factt hF hd 0 rfl rfl (by kernel_rfl)).1.trans (factt hF hd 0 rfl rfl (by kernel_rfl)).2
      have f8 : ac.tmps.getD 8 undef = .slice (some ⟨bB, 0, none⟩) 32 32 := (factt hF hd 1 rfl rfl (by kernel_rfl)).1.trans (factt hF hd 1 rfl rfl (by kernel_rfl)).2
      have f9 : ac.tmps.getD 9 undef = .slice ta m.length tc := (factt hF hd 2 rfl rfl (by kernel_rfl)).1.trans (factt hF hd 2 rfl rfl (by kernel_rfl)).2
      refine step_do ho' (wanted_free rfl) ?_
      have q7 := getq f7
      have q8 := getq f8
      have q9 := getq f9
      unfold Oper.wp
      go_simp
      exact hK _ _ (.inr ⟨_, rfl⟩) ⟨(hF.j.1).below (alloc_below _ _), fun _ _ => ⟨_, rfl, rows3 (bytes_own (hF.j.1.at bA (B32 (bdig p)) 22 (.tail _ (.tail _ (.head _))))) (fun h => by cases h) (bytes_own (hF.j.1.at bB (B32 (bdig q)) 22 (.tail _ (.head _)))) (fun h => by cases h) ((hm.below hF.j.1.2).1) hm.2⟩⟩
    · have ho' := ho
      obtain rfl := Option.some.inj ho
      refine step_do ho' (wanted_free rfl) ?_
      obtain ⟨aq, eq, hq⟩ := hF.j.2 (dep hd 3 (by kernel_rfl)) hLi
      have f10 := (factt hF hd 3 rfl rfl (by kernel_rfl)).1
      rw [eq] at f10
      unfold Oper.wp
      go_simp
      refine (F.wsumA hfl.out Hz.out hln.out _ (F.keep _ _ hT hF.j.1.2) hq).mono ?_
      rintro e w' ⟨rfl, hB⟩
      exact hK _ _ (.inr rfl) ⟨(hF.j.1).below hB, fun _ h => by cases h⟩
    · have ho' := ho
      obtain rfl := Option.some.inj ho
      have f11 : ac.tmps.getD 11 undef = .agg (B64 (bdig z)) := (factt hF hd 4 rfl rfl (by kernel_rfl)).1.trans (factt hF hd 4 rfl rfl (by kernel_rfl)).2
      refine step_do ho' (wanted_free rfl) ?_
      unfold Oper.wp
      go_simp
      refine (F.swideA hzl.out hzk.out _ (F.keep _ _ hT hF.j.1.2)).mono ?_
      rintro e w' ⟨rfl, hB⟩
      exact hK _ _ (.inr rfl) ⟨(hF.j.1).below hB, fun h1 h2 => rows_bel (hF.j.2 h1 h2) hB⟩
    · have ho' := ho
      obtain rfl := Option.some.inj ho
      have f6 : ac.tmps.getD 6 undef = .pointer (some ⟨bR, 0, none⟩) := slott hF 6 hLi 6 (by kernel_rfl)
      have f12 : ac.tmps.getD 12 undef = .agg (B32 (bdig k)) := (factt hF hd 5 rfl rfl (by kernel_rfl)).1.trans (factt hF hd 5 rfl rfl (by kernel_rfl)).2
      refine step_do ho' (wanted_free rfl) ?_
      have hq5 := dep hd 5 (by kernel_rfl)
      have hq4 := dept hF 5 rfl hq5 4 (by kernel_rfl)
      have hjo := hF.j.1
      rw [hLi] at hjo
      have hjo : Own wc bR (B32 fun _ => 0) 22 := hjo.at bR (B32 fun _ => 0) 22 (.head _)
      refine wp_store_own 22 (.tmp 6) (.tmp 12) rfl bR (B32 (bdig k)) f6 f12 hjo (B32_sizes _ _) (B32_info _) (B32_one _) rfl ?_
      have hj := hF.j.1
      rw [hLi] at hj
      have hj : Kp [(bR, B32 fun _ => 0, 22), (bB, B32 (bdig q), 22), (bA, B32 (bdig p), 22)] w wc := hj
      have hj : Kp [(bR, B32 fun _ => 0, 22), (bB, B32 (bdig q), 22), (bA, B32 (bdig p), 22)] w wc := (((hj.none.cons (hj.at bA (B32 (bdig p)) 22 (.tail _ (.tail _ (.head _))))).cons (hj.at bB (B32 (bdig q)) 22 (.tail _ (.head _)))).cons (hj.at bR (B32 fun _ => 0) 22 (.head _)))
      have hj := Kp.set (A' := B32 (bdig k)) hj (by simp only [List.forall_mem_cons, List.not_mem_nil, false_implies, implies_true, and_true]; exact ⟨ne_bB_bR.out, ne_bA_bR.out⟩) le_bR.out (B32_sizes _ _)
      exact hK undef _ (.inl rfl) ⟨(((hj.none.cons (hj.at bA (B32 (bdig p)) 22 (.tail _ (.tail _ (.head _))))).cons (hj.at bB (B32 (bdig q)) 22 (.tail _ (.head _)))).cons (hj.at bR (B32 (bdig k)) 22 (.head _))), fun _ h => by have h : L 4 = false := h; rw [hq4] at h; cases h⟩
    · cases ho
  intro L vs V1 hL hKq hf
  have hKq := hKq.1
  rw [hL 6 (by decide)] at hKq
  have hK : Kp [(bR, B32 (bdig k), 22), (bB, B32 (bdig q), 22), (bA, B32 (bdig p), 22)] w V1 := hKq
  have e0 : vs 0 = _ := hf 0 _ _ rfl rfl
  have e1 : vs 1 = _ := hf 1 _ _ rfl rfl
  have e2 : vs 2 = _ := hf 2 _ _ rfl rfl
  have e4 : vs 4 = _ := hf 4 _ _ rfl rfl
  have e5 : vs 5 = _ := hf 5 _ _ rfl rfl
  obtain ⟨aq3, eb3⟩ := hf 3 _ _ rfl rfl
  simp only [putAll, Nat.zero_add, Nat.reduceAdd, e0, e1, e2, e4, e5, eb3, Act.put, List.setIfInBounds_toArray, List.set_cons_succ, List.set_cons_zero]
  clear hKq hL hf e0 e1 e2 e4 e5 eb3
  go_wp2_with fail
  exact bodyPost_ret (results_own Tryd.results21 _ _ bR (B32 (bdig k)) _ (by rfl) (hK.at bR (B32 (bdig k)) 22 (.head _)) Tryd.underlying22 rfl (B32_info _)) rfl ⟨rfl, hK.2⟩
end Go.Proofs.YtgibllaifnnfkaaDoor
