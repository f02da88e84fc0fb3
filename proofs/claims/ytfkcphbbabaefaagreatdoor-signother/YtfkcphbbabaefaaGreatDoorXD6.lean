/- Of the texts F9: what the card of this claim reaches. -/
import Derived.Test.YtfkcphbbabaefaaGreatDoorXD5
namespace Go.Proofs.YtfkcphbbabaefaaGreatDoor
open Go.RowKit
set_option maxRecDepth 100000 in
set_option maxHeartbeats 4000000 in
theorem pmod_any (a : Nat) (ha : a < R256) (w : World) (hT : TP w) : Calls Tryz.prog 89 #[.agg (B32 (bdig a))] w fun x w' => x = .returned (.agg (B32 (bdig (a % pp)))) ∧ Below w.heap.size w w' := by
  have hz := (zero_of_info zeroB32).1
  go_enter Tryz.func89, Tryz.ntmps89
  go_upto_region 1 with fail
  have hK := ((Kp.nil w).alloc (B32 (bdig a)) 22).alloc (B32 fun _ => 0) 22
  rw [World.size_alloc] at hK
  generalize (w.alloc (.cells (B32 (bdig a)) 22)).alloc (.cells (B32 fun _ => 0) 22) = W at *
  obtain ⟨bA, H1⟩ : ∃ bA, Hid (w.heap.size = bA) := ⟨_, rfl⟩
  obtain ⟨bR, H2⟩ : ∃ bR, Hid (bA + 1 = bR) := ⟨_, rfl⟩
  have hleR : w.heap.size ≤ bR := by have := H1.out; have := H2.out; omega
  rw [H1.out, H2.out] at hK ⊢
  go_wp2_with (refine wpList_load_own (by rfl) 22 (.tmp 1) (by rfl) bA (by rfl) (B32 (bdig a)) _ hK.h2 Tryz.underlying22 (by rfl) (B32_info _) ?_)
  refine (read_any a W).mono ?_
  rintro r W1 ⟨rfl, bw⟩
  have hK := hK.below bw
  go_wp2_with fail
  refine (write_any a ha W1 (hT.kp hK)).mono ?_
  rintro r W2 ⟨rfl, bw⟩
  have hK := hK.below bw
  go_wp2_with (refine wpList_store_own (by rfl) 22 (.tmp 2) (.tmp 5) (by rfl) bR 0 (B32 (bdig (a % pp))) (by rfl) (by rfl) hK.h1 (B32_le _ _) (B32_info _) (B32_one _) (by rfl) ?_)
  exact bodyPost_ret (results_own Tryz.results89 _ _ bR (B32 (bdig (a % pp))) _ (by rfl) (own_setCells hK.h1 (B32_sizes _ _)) Tryz.underlying22 rfl (B32_info _)) rfl ⟨rfl, Below.setCells _ _ _ _ hleR hK.2⟩
def valCheck (a : Nat) : Nat → Value
  | 0 => .agg (B32 (bdig a))
  | 1 => .agg (B32 (bdig (a % pp)))
  | 2 => .agg (B32 (bdig a))
  | 3 => .bool (decide (a % pp = a))
  | 4 => .bool (decide (a % pp = a))
  | _ => undef
set_option maxRecDepth 100000 in
set_option maxHeartbeats 4000000 in
theorem pcheck_any (a : Nat) (ha : a < R256) (w : World) (hT : TP w) : Calls Tryz.prog 70 #[.agg (B32 (bdig a))] w fun x w' => x = .returned (.bool (decide (a < pp))) ∧ Below w.heap.size w w' := by
  have hz := (zero_of_info zeroB32).1
  have Hd : Hid (decide (a % pp = a) = decide (a < pp)) := by
    show _ = _
    rw [decide_eq_decide]
    exact ⟨fun h => h ▸ Nat.mod_lt _ pp_pos, fun h => Nat.mod_eq_of_lt h⟩
  go_enter Tryz.func70, Tryz.ntmps70
  go_upto_region 1 with fail
  have hK := (Kp.nil w).alloc (B32 (bdig a)) 22
  generalize w.alloc (.cells (B32 (bdig a)) 22) = W at *
  obtain ⟨bA, H1⟩ : ∃ bA, Hid (w.heap.size = bA) := ⟨_, rfl⟩
  rw [H1.out] at hK ⊢
  refine wp_region_vals 7 (by kernel_rfl) (by kernel_rfl) (by rfl) (valCheck a) (fun _ => Kp [(bA, B32 (bdig a), 22)] w) hK.drew ?_ ?_
  · intro L ac wc i o hF hLi ho hd K hK
    rcases i with _ | _ | _ | _ | _ | i
    · have ho' := ho
      obtain rfl := Option.some.inj ho
      have f1 : ac.tmps.getD 1 undef = .pointer (some ⟨bA, 0, none⟩) := slotv hF 0 hLi 1 (by kernel_rfl)
      refine step_do ho' (wanted_free rfl) ?_
      exact wp_load_own 22 (.tmp 1) rfl bA f1 (B32 (bdig a)) _ 22 hF.j.h1 Tryz.underlying22 rfl (B32_info _) (hK _ _ (.inr rfl) hF.j)
    · have ho' := ho
      obtain rfl := Option.some.inj ho
      have f3 : ac.tmps.getD 3 undef = .agg (B32 (bdig a)) := valv hF hd 0 rfl rfl (by kernel_rfl)
      refine step_do ho' (wanted_free rfl) ?_
      unfold Oper.wp
      go_simp
      refine (pmod_any a ha _ (hT.kp hF.j)).mono ?_
      rintro e w' ⟨rfl, hB⟩
      exact hK _ _ (.inr rfl) (hF.j.below hB)
    · have ho' := ho
      obtain rfl := Option.some.inj ho
      have f1 : ac.tmps.getD 1 undef = .pointer (some ⟨bA, 0, none⟩) := slotv hF 2 hLi 1 (by kernel_rfl)
      refine step_do ho' (wanted_free rfl) ?_
      exact wp_load_own 22 (.tmp 1) rfl bA f1 (B32 (bdig a)) _ 22 hF.j.h1 Tryz.underlying22 rfl (B32_info _) (hK _ _ (.inr rfl) hF.j)
    · have ho' := ho
      obtain rfl := Option.some.inj ho
      have f4 : ac.tmps.getD 4 undef = .agg (B32 (bdig (a % pp))) := valv hF hd 1 rfl rfl (by kernel_rfl)
      have f5 : ac.tmps.getD 5 undef = .agg (B32 (bdig a)) := valv hF hd 2 rfl rfl (by kernel_rfl)
      refine step_do ho' (wanted_free rfl) ?_
      have he := B32_eq (a % pp) a lt_of_mod ha
      unfold Oper.wp
      go_simp
      exact hK _ _ (.inr rfl) hF.j
    · have ho' := ho
      obtain rfl := Option.some.inj ho
      have f6 : ac.tmps.getD 6 undef = .bool (decide (a % pp = a)) := valv hF hd 3 rfl rfl (by kernel_rfl)
      refine step_do ho' (wanted_free rfl) ?_
      unfold Oper.wp
      go_simp
      exact hK _ _ (.inr rfl) hF.j
    · cases ho
  · intro L wq hL hKq
    simp only [putAll, valCheck, Act.put, List.setIfInBounds_toArray, List.set_cons_succ, List.set_cons_zero]
    go_wp2_with fail
    go_ret
    exact ⟨by rw [← Hd.out]; rfl, hKq.2⟩
def valAdd (a b : Nat) : Nat → Value
  | 0 => .agg (B32 (bdig a))
  | 1 => .agg (numA a)
  | 2 => .agg (numA (a % pp))
  | 3 => .agg (B32 (bdig b))
  | 4 => .agg (numA b)
  | 5 => .agg (numA (b % pp))
  | 6 => .agg (numA (a % pp + b % pp))
  | 7 => .agg (B32 (bdig ((a % pp + b % pp) % pp)))
  | _ => undef
set_option maxRecDepth 100000 in
set_option maxHeartbeats 8000000 in
theorem padd_any (a b : Nat) (ha : a < R256) (hb : b < R256) (w : World) (hT : TP w) : Calls Tryz.prog 84 #[.agg (B32 (bdig a)), .agg (B32 (bdig b))] w fun x w' => x = .returned (.agg (B32 (bdig ((a + b) % pp)))) ∧ Below w.heap.size w w' := by
  have hz := (zero_of_info zeroB32).1
  have hs : a % pp + b % pp < R256 := by
    have h1 := Nat.mod_lt a pp_pos
    have h2 := Nat.mod_lt b pp_pos
    generalize a % pp = x at *
    generalize b % pp = y at *
    unfold pp at h1 h2
    unfold R256
    omega
  have Hfin : Hid ((a % pp + b % pp) % pp = (a + b) % pp) := (Nat.add_mod a b pp).symm
  go_enter Tryz.func84, Tryz.ntmps84
  go_upto_region 1 with fail
  have hK := (((Kp.nil w).alloc (B32 (bdig a)) 22).alloc (B32 (bdig b)) 22).alloc (B32 fun _ => 0) 22
  rw [World.size_alloc, World.size_alloc] at hK
  generalize ((w.alloc (.cells (B32 (bdig a)) 22)).alloc (.cells (B32 (bdig b)) 22)).alloc (.cells (B32 fun _ => 0) 22) = W at *
  obtain ⟨bA, H1⟩ : ∃ bA, Hid (w.heap.size = bA) := ⟨_, rfl⟩
  obtain ⟨bB, H2⟩ : ∃ bB, Hid (bA + 1 = bB) := ⟨_, rfl⟩
  obtain ⟨bR, H3⟩ : ∃ bR, Hid (bB + 1 = bR) := ⟨_, rfl⟩
  have hleR : w.heap.size ≤ bR := by have := H1.out; have := H2.out; have := H3.out; omega
  have nA : bA ≠ bR := by have := H2.out; have := H3.out; omega
  have nB : bB ≠ bR := by have := H3.out; omega
  rw [H1.out, H2.out, H3.out] at hK ⊢
  refine wp_region_vals 13 (by kernel_rfl) (by kernel_rfl) (by rfl) (valAdd a b) (fun L => Kp [(bR, if L 8 then B32 (bdig ((a % pp + b % pp) % pp)) else B32 fun _ => 0, 22), (bB, B32 (bdig b), 22), (bA, B32 (bdig a), 22)] w) hK.drew ?_ ?_
  · intro L ac wc i o hF hLi ho hd K hK
    rcases i with _ | _ | _ | _ | _ | _ | _ | _ | _ | i
    · have ho' := ho
      obtain rfl := Option.some.inj ho
      have f2 : ac.tmps.getD 2 undef = .pointer (some ⟨bA, 0, none⟩) := slotv hF 0 hLi 2 (by kernel_rfl)
      refine step_do ho' (wanted_free rfl) ?_
      exact wp_load_own 22 (.tmp 2) rfl bA f2 (B32 (bdig a)) _ 22 hF.j.h3 Tryz.underlying22 rfl (B32_info _) (hK _ _ (.inr rfl) hF.j)
    · have ho' := ho
      obtain rfl := Option.some.inj ho
      have f5 : ac.tmps.getD 5 undef = .agg (B32 (bdig a)) := valv hF hd 0 rfl rfl (by kernel_rfl)
      refine step_do ho' (wanted_free rfl) ?_
      unfold Oper.wp
      go_simp
      refine (read_any a _).mono ?_
      rintro e w' ⟨rfl, hB⟩
      exact hK _ _ (.inr rfl) (hF.j.below hB)
    · have ho' := ho
      obtain rfl := Option.some.inj ho
      have f6 : ac.tmps.getD 6 undef = .agg (numA a) := valv hF hd 1 rfl rfl (by kernel_rfl)
      refine step_do ho' (wanted_free rfl) ?_
      unfold Oper.wp
      go_simp
      refine (least_any a ha _ (hT.kp hF.j)).mono ?_
      rintro e w' ⟨rfl, hB⟩
      exact hK _ _ (.inr rfl) (hF.j.below hB)
    · have ho' := ho
      obtain rfl := Option.some.inj ho
      have f3 : ac.tmps.getD 3 undef = .pointer (some ⟨bB, 0, none⟩) := slotv hF 3 hLi 3 (by kernel_rfl)
      refine step_do ho' (wanted_free rfl) ?_
      exact wp_load_own 22 (.tmp 3) rfl bB f3 (B32 (bdig b)) _ 22 hF.j.h2 Tryz.underlying22 rfl (B32_info _) (hK _ _ (.inr rfl) hF.j)
    · have ho' := ho
      obtain rfl := Option.some.inj ho
      have f8 : ac.tmps.getD 8 undef = .agg (B32 (bdig b)) := valv hF hd 3 rfl rfl (by kernel_rfl)
      refine step_do ho' (wanted_free rfl) ?_
      unfold Oper.wp
      go_simp
      refine (read_any b _).mono ?_
      rintro e w' ⟨rfl, hB⟩
      exact hK _ _ (.inr rfl) (hF.j.below hB)
    · have ho' := ho
      obtain rfl := Option.some.inj ho
      have f9 : ac.tmps.getD 9 undef = .agg (numA b) := valv hF hd 4 rfl rfl (by kernel_rfl)
      refine step_do ho' (wanted_free rfl) ?_
      unfold Oper.wp
      go_simp
      refine (least_any b hb _ (hT.kp hF.j)).mono ?_
      rintro e w' ⟨rfl, hB⟩
      exact hK _ _ (.inr rfl) (hF.j.below hB)
    · have ho' := ho
      obtain rfl := Option.some.inj ho
      have f7 : ac.tmps.getD 7 undef = .agg (numA (a % pp)) := valv hF hd 2 rfl rfl (by kernel_rfl)
      have f10 : ac.tmps.getD 10 undef = .agg (numA (b % pp)) := valv hF hd 5 rfl rfl (by kernel_rfl)
      refine step_do ho' (wanted_free rfl) ?_
      unfold Oper.wp
      go_simp
      refine (fplus_any _ _ lt_of_mod lt_of_mod hs _).mono ?_
      rintro e w' ⟨rfl, hB⟩
      exact hK _ _ (.inr rfl) (hF.j.below hB)
    · have ho' := ho
      obtain rfl := Option.some.inj ho
      have f11 : ac.tmps.getD 11 undef = .agg (numA (a % pp + b % pp)) := valv hF hd 6 rfl rfl (by kernel_rfl)
      refine step_do ho' (wanted_free rfl) ?_
      unfold Oper.wp
      go_simp
      refine (write_any _ hs _ (hT.kp hF.j)).mono ?_
      rintro e w' ⟨rfl, hB⟩
      exact hK _ _ (.inr rfl) (hF.j.below hB)
    · have ho' := ho
      obtain rfl := Option.some.inj ho
      have f4 : ac.tmps.getD 4 undef = .pointer (some ⟨bR, 0, none⟩) := slotv hF 8 hLi 4 (by kernel_rfl)
      have f12 : ac.tmps.getD 12 undef = .agg (B32 (bdig ((a % pp + b % pp) % pp))) := valv hF hd 7 rfl rfl (by kernel_rfl)
      refine step_do ho' (wanted_free rfl) ?_
      have hj := hF.j
      rw [hLi] at hj
      refine wp_store_own 22 (.tmp 4) (.tmp 12) rfl bR (B32 (bdig ((a % pp + b % pp) % pp))) f4 f12 hj.h1 (B32_sizes _ _) (B32_info _) (B32_one _) rfl ?_
      exact hK undef _ (.inl rfl) (Kp.set hj (by simp; omega) hleR (B32_sizes _ _))
    · cases ho
  · intro L wq hL hKq
    rw [hL 8 (by decide)] at hKq
    simp only [putAll, valAdd, Act.put, List.setIfInBounds_toArray, List.set_cons_succ, List.set_cons_zero]
    go_wp2_with fail
    exact bodyPost_ret (results_own Tryz.results84 _ _ bR (B32 (bdig ((a % pp + b % pp) % pp))) _ (by rfl) hKq.h1 Tryz.underlying22 rfl (B32_info _)) rfl ⟨by rw [Hfin.out], hKq.2⟩
def valSub (a b : Nat) : Nat → Value
  | 0 => .agg (B32 (bdig a))
  | 1 => .agg (numA a)
  | 2 => .agg (numA (a % pp))
  | 3 => .agg (B32 (bdig b))
  | 4 => .agg (numA b)
  | 5 => .agg (numA (pp - b % pp))
  | 6 => .agg (numA (a % pp + (pp - b % pp)))
  | 7 => .agg (B32 (bdig ((a % pp + (pp - b % pp)) % pp)))
  | _ => undef
set_option maxRecDepth 100000 in
set_option maxHeartbeats 8000000 in
theorem psub_any (a b : Nat) (ha : a < R256) (hb : b < R256) (w : World) (hT : TP w) : Calls Tryz.prog 85 #[.agg (B32 (bdig a)), .agg (B32 (bdig b))] w fun x w' => x = .returned (.agg (B32 (bdig ((a % pp + pp - b % pp) % pp)))) ∧ Below w.heap.size w w' := by
  have hz := (zero_of_info zeroB32).1
  have hq : pp - b % pp < R256 := Nat.lt_of_le_of_lt (Nat.sub_le _ _) (by decide)
  have hs : a % pp + (pp - b % pp) < R256 := by
    have h1 := Nat.mod_lt a pp_pos
    generalize a % pp = x at *
    generalize b % pp = y at *
    unfold pp at h1 ⊢
    unfold R256
    omega
  have Hfin : Hid ((a % pp + (pp - b % pp)) % pp = (a % pp + pp - b % pp) % pp) := by
    show _ = _
    rw [Nat.add_sub_assoc (Nat.le_of_lt (Nat.mod_lt b pp_pos))]
  go_enter Tryz.func85, Tryz.ntmps85
  go_upto_region 1 with fail
  have hK := (((Kp.nil w).alloc (B32 (bdig a)) 22).alloc (B32 (bdig b)) 22).alloc (B32 fun _ => 0) 22
  rw [World.size_alloc, World.size_alloc] at hK
  generalize ((w.alloc (.cells (B32 (bdig a)) 22)).alloc (.cells (B32 (bdig b)) 22)).alloc (.cells (B32 fun _ => 0) 22) = W at *
  obtain ⟨bA, H1⟩ : ∃ bA, Hid (w.heap.size = bA) := ⟨_, rfl⟩
  obtain ⟨bB, H2⟩ : ∃ bB, Hid (bA + 1 = bB) := ⟨_, rfl⟩
  obtain ⟨bR, H3⟩ : ∃ bR, Hid (bB + 1 = bR) := ⟨_, rfl⟩
  have hleR : w.heap.size ≤ bR := by have := H1.out; have := H2.out; have := H3.out; omega
  have nA : bA ≠ bR := by have := H2.out; have := H3.out; omega
  have nB : bB ≠ bR := by have := H3.out; omega
  rw [H1.out, H2.out, H3.out] at hK ⊢
  refine wp_region_vals 13 (by kernel_rfl) (by kernel_rfl) (by rfl) (valSub a b) (fun L => Kp [(bR, if L 8 then B32 (bdig ((a % pp + (pp - b % pp)) % pp)) else B32 fun _ => 0, 22), (bB, B32 (bdig b), 22), (bA, B32 (bdig a), 22)] w) hK.drew ?_ ?_
  · intro L ac wc i o hF hLi ho hd K hK
    rcases i with _ | _ | _ | _ | _ | _ | _ | _ | _ | i
    · have ho' := ho
      obtain rfl := Option.some.inj ho
      have f2 : ac.tmps.getD 2 undef = .pointer (some ⟨bA, 0, none⟩) := slotv hF 0 hLi 2 (by kernel_rfl)
      refine step_do ho' (wanted_free rfl) ?_
      exact wp_load_own 22 (.tmp 2) rfl bA f2 (B32 (bdig a)) _ 22 hF.j.h3 Tryz.underlying22 rfl (B32_info _) (hK _ _ (.inr rfl) hF.j)
    · have ho' := ho
      obtain rfl := Option.some.inj ho
      have f5 : ac.tmps.getD 5 undef = .agg (B32 (bdig a)) := valv hF hd 0 rfl rfl (by kernel_rfl)
      refine step_do ho' (wanted_free rfl) ?_
      unfold Oper.wp
      go_simp
      refine (read_any a _).mono ?_
      rintro e w' ⟨rfl, hB⟩
      exact hK _ _ (.inr rfl) (hF.j.below hB)
    · have ho' := ho
      obtain rfl := Option.some.inj ho
      have f6 : ac.tmps.getD 6 undef = .agg (numA a) := valv hF hd 1 rfl rfl (by kernel_rfl)
      refine step_do ho' (wanted_free rfl) ?_
      unfold Oper.wp
      go_simp
      refine (least_any a ha _ (hT.kp hF.j)).mono ?_
      rintro e w' ⟨rfl, hB⟩
      exact hK _ _ (.inr rfl) (hF.j.below hB)
    · have ho' := ho
      obtain rfl := Option.some.inj ho
      have f3 : ac.tmps.getD 3 undef = .pointer (some ⟨bB, 0, none⟩) := slotv hF 3 hLi 3 (by kernel_rfl)
      refine step_do ho' (wanted_free rfl) ?_
      exact wp_load_own 22 (.tmp 3) rfl bB f3 (B32 (bdig b)) _ 22 hF.j.h2 Tryz.underlying22 rfl (B32_info _) (hK _ _ (.inr rfl) hF.j)
    · have ho' := ho
      obtain rfl := Option.some.inj ho
      have f8 : ac.tmps.getD 8 undef = .agg (B32 (bdig b)) := valv hF hd 3 rfl rfl (by kernel_rfl)
      refine step_do ho' (wanted_free rfl) ?_
      unfold Oper.wp
      go_simp
      refine (read_any b _).mono ?_
      rintro e w' ⟨rfl, hB⟩
      exact hK _ _ (.inr rfl) (hF.j.below hB)
    · have ho' := ho
      obtain rfl := Option.some.inj ho
      have f9 : ac.tmps.getD 9 undef = .agg (numA b) := valv hF hd 4 rfl rfl (by kernel_rfl)
      refine step_do ho' (wanted_free rfl) ?_
      unfold Oper.wp
      go_simp
      refine (opp_any b hb _ (hT.kp hF.j)).mono ?_
      rintro e w' ⟨rfl, hB⟩
      exact hK _ _ (.inr rfl) (hF.j.below hB)
    · have ho' := ho
      obtain rfl := Option.some.inj ho
      have f7 : ac.tmps.getD 7 undef = .agg (numA (a % pp)) := valv hF hd 2 rfl rfl (by kernel_rfl)
      have f10 : ac.tmps.getD 10 undef = .agg (numA (pp - b % pp)) := valv hF hd 5 rfl rfl (by kernel_rfl)
      refine step_do ho' (wanted_free rfl) ?_
      unfold Oper.wp
      go_simp
      refine (fplus_any _ _ lt_of_mod hq hs _).mono ?_
      rintro e w' ⟨rfl, hB⟩
      exact hK _ _ (.inr rfl) (hF.j.below hB)
    · have ho' := ho
      obtain rfl := Option.some.inj ho
      have f11 : ac.tmps.getD 11 undef = .agg (numA (a % pp + (pp - b % pp))) := valv hF hd 6 rfl rfl (by kernel_rfl)
      refine step_do ho' (wanted_free rfl) ?_
      unfold Oper.wp
      go_simp
      refine (write_any _ hs _ (hT.kp hF.j)).mono ?_
      rintro e w' ⟨rfl, hB⟩
      exact hK _ _ (.inr rfl) (hF.j.below hB)
    · have ho' := ho
      obtain rfl := Option.some.inj ho
      have f4 : ac.tmps.getD 4 undef = .pointer (some ⟨bR, 0, none⟩) := slotv hF 8 hLi 4 (by kernel_rfl)
      have f12 : ac.tmps.getD 12 undef = .agg (B32 (bdig ((a % pp + (pp - b % pp)) % pp))) := valv hF hd 7 rfl rfl (by kernel_rfl)
      refine step_do ho' (wanted_free rfl) ?_
      have hj := hF.j
      rw [hLi] at hj
      refine wp_store_own 22 (.tmp 4) (.tmp 12) rfl bR (B32 (bdig ((a % pp + (pp - b % pp)) % pp))) f4 f12 hj.h1 (B32_sizes _ _) (B32_info _) (B32_one _) rfl ?_
      exact hK undef _ (.inl rfl) (Kp.set hj (by simp; omega) hleR (B32_sizes _ _))
    · cases ho
  · intro L wq hL hKq
    rw [hL 8 (by decide)] at hKq
    simp only [putAll, valSub, Act.put, List.setIfInBounds_toArray, List.set_cons_succ, List.set_cons_zero]
    go_wp2_with fail
    exact bodyPost_ret (results_own Tryz.results85 _ _ bR (B32 (bdig ((a % pp + (pp - b % pp)) % pp))) _ (by rfl) hKq.h1 Tryz.underlying22 rfl (B32_info _)) rfl ⟨by rw [Hfin.out], hKq.2⟩
def valMul (a b : Nat) : Nat → Value
  | 0 => .agg (B32 (bdig a))
  | 1 => .agg (numA a)
  | 2 => .agg (B32 (bdig b))
  | 3 => .agg (numA b)
  | 4 => .agg (numA (tmul a b))
  | 5 => .agg (B32 (bdig (tmul a b % pp)))
  | _ => undef
set_option maxRecDepth 100000 in
set_option maxHeartbeats 8000000 in
theorem pmul_any (a b : Nat) (ha : a < R256) (hb : b < R256) (w : World) (hT : TP w) : Calls Tryz.prog 74 #[.agg (B32 (bdig a)), .agg (B32 (bdig b))] w fun x w' => x = .returned (.agg (B32 (bdig (a * b % pp)))) ∧ Below w.heap.size w w' := by
  have hz := (zero_of_info zeroB32).1
  have Hfin : Hid (tmul a b % pp = a * b % pp) := tmul_mod a b
  go_enter Tryz.func74, Tryz.ntmps74
  go_upto_region 1 with fail
  have hK := (((Kp.nil w).alloc (B32 (bdig a)) 22).alloc (B32 (bdig b)) 22).alloc (B32 fun _ => 0) 22
  rw [World.size_alloc, World.size_alloc] at hK
  generalize ((w.alloc (.cells (B32 (bdig a)) 22)).alloc (.cells (B32 (bdig b)) 22)).alloc (.cells (B32 fun _ => 0) 22) = W at *
  obtain ⟨bA, H1⟩ : ∃ bA, Hid (w.heap.size = bA) := ⟨_, rfl⟩
  obtain ⟨bB, H2⟩ : ∃ bB, Hid (bA + 1 = bB) := ⟨_, rfl⟩
  obtain ⟨bR, H3⟩ : ∃ bR, Hid (bB + 1 = bR) := ⟨_, rfl⟩
  have hleR : w.heap.size ≤ bR := by have := H1.out; have := H2.out; have := H3.out; omega
  have nA : bA ≠ bR := by have := H2.out; have := H3.out; omega
  have nB : bB ≠ bR := by have := H3.out; omega
  rw [H1.out, H2.out, H3.out] at hK ⊢
  refine wp_region_vals 11 (by kernel_rfl) (by kernel_rfl) (by rfl) (valMul a b) (fun L => Kp [(bR, if L 6 then B32 (bdig (tmul a b % pp)) else B32 fun _ => 0, 22), (bB, B32 (bdig b), 22), (bA, B32 (bdig a), 22)] w) hK.drew ?_ ?_
  · intro L ac wc i o hF hLi ho hd K hK
    rcases i with _ | _ | _ | _ | _ | _ | _ | i
    · have ho' := ho
      obtain rfl := Option.some.inj ho
      have f2 : ac.tmps.getD 2 undef = .pointer (some ⟨bA, 0, none⟩) := slotv hF 0 hLi 2 (by kernel_rfl)
      refine step_do ho' (wanted_free rfl) ?_
      exact wp_load_own 22 (.tmp 2) rfl bA f2 (B32 (bdig a)) _ 22 hF.j.h3 Tryz.underlying22 rfl (B32_info _) (hK _ _ (.inr rfl) hF.j)
    · have ho' := ho
      obtain rfl := Option.some.inj ho
      have f5 : ac.tmps.getD 5 undef = .agg (B32 (bdig a)) := valv hF hd 0 rfl rfl (by kernel_rfl)
      refine step_do ho' (wanted_free rfl) ?_
      unfold Oper.wp
      go_simp
      refine (read_any a _).mono ?_
      rintro e w' ⟨rfl, hB⟩
      exact hK _ _ (.inr rfl) (hF.j.below hB)
    · have ho' := ho
      obtain rfl := Option.some.inj ho
      have f3 : ac.tmps.getD 3 undef = .pointer (some ⟨bB, 0, none⟩) := slotv hF 2 hLi 3 (by kernel_rfl)
      refine step_do ho' (wanted_free rfl) ?_
      exact wp_load_own 22 (.tmp 3) rfl bB f3 (B32 (bdig b)) _ 22 hF.j.h2 Tryz.underlying22 rfl (B32_info _) (hK _ _ (.inr rfl) hF.j)
    · have ho' := ho
      obtain rfl := Option.some.inj ho
      have f7 : ac.tmps.getD 7 undef = .agg (B32 (bdig b)) := valv hF hd 2 rfl rfl (by kernel_rfl)
      refine step_do ho' (wanted_free rfl) ?_
      unfold Oper.wp
      go_simp
      refine (read_any b _).mono ?_
      rintro e w' ⟨rfl, hB⟩
      exact hK _ _ (.inr rfl) (hF.j.below hB)
    · have ho' := ho
      obtain rfl := Option.some.inj ho
      have f6 : ac.tmps.getD 6 undef = .agg (numA a) := valv hF hd 1 rfl rfl (by kernel_rfl)
      have f8 : ac.tmps.getD 8 undef = .agg (numA b) := valv hF hd 3 rfl rfl (by kernel_rfl)
      refine step_do ho' (wanted_free rfl) ?_
      unfold Oper.wp
      go_simp
      refine (ptimes_any a b ha hb _).mono ?_
      rintro e w' ⟨rfl, hB⟩
      exact hK _ _ (.inr rfl) (hF.j.below hB)
    · have ho' := ho
      obtain rfl := Option.some.inj ho
      have f9 : ac.tmps.getD 9 undef = .agg (numA (tmul a b)) := valv hF hd 4 rfl rfl (by kernel_rfl)
      refine step_do ho' (wanted_free rfl) ?_
      unfold Oper.wp
      go_simp
      refine (write_any _ (tmul_lt ha hb) _ (hT.kp hF.j)).mono ?_
      rintro e w' ⟨rfl, hB⟩
      exact hK _ _ (.inr rfl) (hF.j.below hB)
    · have ho' := ho
      obtain rfl := Option.some.inj ho
      have f4 : ac.tmps.getD 4 undef = .pointer (some ⟨bR, 0, none⟩) := slotv hF 6 hLi 4 (by kernel_rfl)
      have f10 : ac.tmps.getD 10 undef = .agg (B32 (bdig (tmul a b % pp))) := valv hF hd 5 rfl rfl (by kernel_rfl)
      refine step_do ho' (wanted_free rfl) ?_
      have hj := hF.j
      rw [hLi] at hj
      refine wp_store_own 22 (.tmp 4) (.tmp 10) rfl bR (B32 (bdig (tmul a b % pp))) f4 f10 hj.h1 (B32_sizes _ _) (B32_info _) (B32_one _) rfl ?_
      exact hK undef _ (.inl rfl) (Kp.set hj (by simp; omega) hleR (B32_sizes _ _))
    · cases ho
  · intro L wq hL hKq
    rw [hL 6 (by decide)] at hKq
    simp only [putAll, valMul, Act.put, List.setIfInBounds_toArray, List.set_cons_succ, List.set_cons_zero]
    go_wp2_with fail
    exact bodyPost_ret (results_own Tryz.results74 _ _ bR (B32 (bdig (tmul a b % pp))) _ (by rfl) hKq.h1 Tryz.underlying22 rfl (B32_info _)) rfl ⟨by rw [Hfin.out], hKq.2⟩
theorem fld : Fld TP where
  keep := fun _ _ h hB => h.keep hB
  check := pcheck_any
  mod := pmod_any
  add := padd_any
  sub := psub_any
  mul := pmul_any
end Go.Proofs.YtfkcphbbabaefaaGreatDoor
