/- Of the texts F9, F10: what the card of this claim reaches. -/
import Derived.Test.YtfkcphbbabaefaaDoorXB5
namespace Go.Proofs.YtfkcphbbabaefaaDoor
open Go.RowKit
set_option maxRecDepth 100000 in
set_option maxHeartbeats 4000000 in
theorem pmod_any (a : Nat) (ha : a < R256) (w : World) (hT : TP w) : Calls Tryd.prog 87 #[.agg (B32 (bdig a))] w fun x w' => x = .returned (.agg (B32 (bdig (a % pp)))) ∧ Below w.heap.size w w' := by
  have hz := (zero_of_info zeroB32).1
  go_enter Tryd.func87, Tryd.ntmps87
  go_upto_region 1 with fail
  have hK := ((Kp.nil w).alloc (B32 (bdig a)) 22).alloc (B32 fun _ => 0) 22
  rw [World.size_alloc] at hK
  generalize (w.alloc (.cells (B32 (bdig a)) 22)).alloc (.cells (B32 fun _ => 0) 22) = W at *
  obtain ⟨bA, H1⟩ : ∃ bA, Hid (w.heap.size = bA) := ⟨_, rfl⟩
  obtain ⟨bR, H2⟩ : ∃ bR, Hid (bA + 1 = bR) := ⟨_, rfl⟩
  have hleR : w.heap.size ≤ bR := by have := H1.out; have := H2.out; omega
  rw [H1.out, H2.out] at hK ⊢
  go_wp2_with (refine wpList_load_own (by rfl) 22 (.tmp 1) (by rfl) bA (by rfl) (B32 (bdig a)) _ hK.h2 Tryd.underlying22 (by rfl) (B32_info _) ?_)
  refine (read_any a W).mono ?_
  rintro r W1 ⟨rfl, bw⟩
  have hK := hK.below bw
  go_wp2_with fail
  refine (write_any a ha W1 (hT.kp hK)).mono ?_
  rintro r W2 ⟨rfl, bw⟩
  have hK := hK.below bw
  go_wp2_with (refine wpList_store_own (by rfl) 22 (.tmp 2) (.tmp 5) (by rfl) bR 0 (B32 (bdig (a % pp))) (by rfl) (by rfl) hK.h1 (B32_le _ _) (B32_info _) (B32_one _) (by rfl) ?_)
  exact bodyPost_ret (results_own Tryd.results87 _ _ bR (B32 (bdig (a % pp))) _ (by rfl) (own_setCells hK.h1 (B32_sizes _ _)) Tryd.underlying22 rfl (B32_info _)) rfl ⟨rfl, Below.setCells _ _ _ _ hleR hK.2⟩
def valCheck (a : Nat) : Nat → Value
  | 0 => .agg (B32 (bdig a))
  | 1 => .agg (B32 (bdig (a % pp)))
  | 2 => .agg (B32 (bdig a))
  | 3 => .bool (decide (a % pp = a))
  | 4 => .bool (decide (a % pp = a))
  | _ => undef
set_option maxRecDepth 100000 in
set_option maxHeartbeats 4000000 in
theorem pcheck_any (a : Nat) (ha : a < R256) (w : World) (hT : TP w) : Calls Tryd.prog 63 #[.agg (B32 (bdig a))] w fun x w' => x = .returned (.bool (decide (a < pp))) ∧ Below w.heap.size w w' := by
  have hz := (zero_of_info zeroB32).1
  have Hd : Hid (decide (a % pp = a) = decide (a < pp)) := by
    show _ = _
    rw [decide_eq_decide]
    exact ⟨fun h => h ▸ Nat.mod_lt _ pp_pos, fun h => Nat.mod_eq_of_lt h⟩
  go_enter Tryd.func63, Tryd.ntmps63
  go_upto_region 1 with fail
  have hK := (Kp.nil w).alloc (B32 (bdig a)) 22
  generalize w.alloc (.cells (B32 (bdig a)) 22) = W at *
  obtain ⟨bA, H1⟩ : ∃ bA, Hid (w.heap.size = bA) := ⟨_, rfl⟩
  rw [H1.out] at hK ⊢
  refine wp_region_vals 7 (by kernel_rfl) (by kernel_rfl) (by rfl) (valCheck a) (fun _ => Kp [(bA, B32 (bdig a), 22)] w) hK.drew ?_ ?_
  · intro L ac wc i o hF hLi ho hd K hK
    rcases i with _ | _ | _ | _ | _ | i
    · have ho' := ho
      obtain rfl := Option.some.inj ho
      have f1 : ac.tmps.getD 1 undef = .pointer (some ⟨bA, 0, none⟩) := slotv hF 0 hLi 1 (by kernel_rfl)
      refine step_do ho' (wanted_free rfl) ?_
      exact wp_load_own 22 (.tmp 1) rfl bA f1 (B32 (bdig a)) _ 22 hF.j.h1 Tryd.underlying22 rfl (B32_info _) (hK _ _ (.inr rfl) hF.j)
    · have ho' := ho
      obtain rfl := Option.some.inj ho
      have f3 : ac.tmps.getD 3 undef = .agg (B32 (bdig a)) := valv hF hd 0 rfl rfl (by kernel_rfl)
      refine step_do ho' (wanted_free rfl) ?_
      unfold Oper.wp
      go_simp
      refine (pmod_any a ha _ (hT.kp hF.j)).mono ?_
      rintro e w' ⟨rfl, hB⟩
      exact hK _ _ (.inr rfl) (hF.j.below hB)
    · have ho' := ho
      obtain rfl := Option.some.inj ho
      have f1 : ac.tmps.getD 1 undef = .pointer (some ⟨bA, 0, none⟩) := slotv hF 2 hLi 1 (by kernel_rfl)
      refine step_do ho' (wanted_free rfl) ?_
      exact wp_load_own 22 (.tmp 1) rfl bA f1 (B32 (bdig a)) _ 22 hF.j.h1 Tryd.underlying22 rfl (B32_info _) (hK _ _ (.inr rfl) hF.j)
    · have ho' := ho
      obtain rfl := Option.some.inj ho
      have f4 : ac.tmps.getD 4 undef = .agg (B32 (bdig (a % pp))) := valv hF hd 1 rfl rfl (by kernel_rfl)
      have f5 : ac.tmps.getD 5 undef = .agg (B32 (bdig a)) := valv hF hd 2 rfl rfl (by kernel_rfl)
      refine step_do ho' (wanted_free rfl) ?_
      have he := B32_eq (a % pp) a lt_of_mod ha
      unfold Oper.wp
      go_simp
      exact hK _ _ (.inr rfl) hF.j
    · have ho' := ho
      obtain rfl := Option.some.inj ho
      have f6 : ac.tmps.getD 6 undef = .bool (decide (a % pp = a)) := valv hF hd 3 rfl rfl (by kernel_rfl)
      refine step_do ho' (wanted_free rfl) ?_
      unfold Oper.wp
      go_simp
      exact hK _ _ (.inr rfl) hF.j
    · cases ho
  · intro L wq hL hKq
    simp only [putAll, valCheck, Act.put, List.setIfInBounds_toArray, List.set_cons_succ, List.set_cons_zero]
    go_wp2_with fail
    go_ret
    exact ⟨by rw [← Hd.out]; rfl, hKq.2⟩
def valAdd (a b : Nat) : Nat → Value
  | 0 => .agg (B32 (bdig a))
  | 1 => .agg (numA a)
  | 2 => .agg (numA (a % pp))
  | 3 => .agg (B32 (bdig b))
  | 4 => .agg (numA b)
  | 5 => .agg (numA (b % pp))
  | 6 => .agg (numA (a % pp + b % pp))
  | 7 => .agg (B32 (bdig ((a % pp + b % pp) % pp)))
  | _ => undef
set_option maxRecDepth 100000 in
set_option maxHeartbeats 8000000 in
theorem padd_any (a b : Nat) (ha : a < R256) (hb : b < R256) (w : World) (hT : TP w) : Calls Tryd.prog 70 #[.agg (B32 (bdig a)), .agg (B32 (bdig b))] w fun x w' => x = .returned (.agg (B32 (bdig ((a + b) % pp)))) ∧ Below w.heap.size w w' := by
  have hz := (zero_of_info zeroB32).1
  have hs : a % pp + b % pp < R256 := by
    have h1 := Nat.mod_lt a pp_pos
    have h2 := Nat.mod_lt b pp_pos
    generalize a % pp = x at *
    generalize b % pp = y at *
    unfold pp at h1 h2
    unfold R256
    omega
  have Hfin : Hid ((a % pp + b % pp) % pp = (a + b) % pp) := (Nat.add_mod a b pp).symm
  go_enter Tryd.func70, Tryd.ntmps70
  go_upto_region 1 with fail
  have hK := (((Kp.nil w).alloc (B32 (bdig a)) 22).alloc (B32 (bdig b)) 22).alloc (B32 fun _ => 0) 22
  rw [World.size_alloc, World.size_alloc] at hK
  generalize ((w.alloc (.cells (B32 (bdig a)) 22)).alloc (.cells (B32 (bdig b)) 22)).alloc (.cells (B32 fun _ => 0) 22) = W at *
  obtain ⟨bA, H1⟩ : ∃ bA, Hid (w.heap.size = bA) := ⟨_, rfl⟩
  obtain ⟨bB, H2⟩ : ∃ bB, Hid (bA + 1 = bB) := ⟨_, rfl⟩
  obtain ⟨bR, H3⟩ : ∃ bR, Hid (bB + 1 = bR) := ⟨_, rfl⟩
  have hleR : w.heap.size ≤ bR := by have := H1.out; have := H2.out; have := H3.out; omega
  have nA : bA ≠ bR := by have := H2.out; have := H3.out; omega
  have nB : bB ≠ bR := by have := H3.out; omega
  rw [H1.out, H2.out, H3.out] at hK ⊢
  refine wp_region_vals 13 (by kernel_rfl) (by kernel_rfl) (by rfl) (valAdd a b) (fun L => Kp [(bR, if L 8 then B32 (bdig ((a % pp + b % pp) % pp)) else B32 fun _ => 0, 22), (bB, B32 (bdig b), 22), (bA, B32 (bdig a), 22)] w) hK.drew ?_ ?_
  · intro L ac wc i o hF hLi ho hd K hK
    rcases i with _ | _ | _ | _ | _ | _ | _ | _ | _ | i
    · have ho' := ho
      obtain rfl := Option.some.inj ho
      have f2 : ac.tmps.getD 2 undef = .pointer (some ⟨bA, 0, none⟩) := slotv hF 0 hLi 2 (by kernel_rfl)
      refine step_do ho' (wanted_free rfl) ?_
      exact wp_load_own 22 (.tmp 2) rfl bA f2 (B32 (bdig a)) _ 22 hF.j.h3 Tryd.underlying22 rfl (B32_info _) (hK _ _ (.inr rfl) hF.j)
    · have ho' := ho
      obtain rfl := Option.some.inj ho
      have f5 : ac.tmps.getD 5 undef = .agg (B32 (bdig a)) := valv hF hd 0 rfl rfl (by kernel_rfl)
      refine step_do ho' (wanted_free rfl) ?_
      unfold Oper.wp
      go_simp
      refine (read_any a _).mono ?_
      rintro e w' ⟨rfl, hB⟩
      exact hK _ _ (.inr rfl) (hF.j.below hB)
    · have ho' := ho
      obtain rfl := Option.some.inj ho
      have f6 : ac.tmps.getD 6 undef = .agg (numA a) := valv hF hd 1 rfl rfl (by kernel_rfl)
      refine step_do ho' (wanted_free rfl) ?_
      unfold Oper.wp
      go_simp
      refine (least_any a ha _ (hT.kp hF.j)).mono ?_
      rintro e w' ⟨rfl, hB⟩
      exact hK _ _ (.inr rfl) (hF.j.below hB)
    · have ho' := ho
      obtain rfl := Option.some.inj ho
      have f3 : ac.tmps.getD 3 undef = .pointer (some ⟨bB, 0, none⟩) := slotv hF 3 hLi 3 (by kernel_rfl)
      refine step_do ho' (wanted_free rfl) ?_
      exact wp_load_own 22 (.tmp 3) rfl bB f3 (B32 (bdig b)) _ 22 hF.j.h2 Tryd.underlying22 rfl (B32_info _) (hK _ _ (.inr rfl) hF.j)
    · have ho' := ho
      obtain rfl := Option.some.inj ho
      have f8 : ac.tmps.getD 8 undef = .agg (B32 (bdig b)) := valv hF hd 3 rfl rfl (by kernel_rfl)
      refine step_do ho' (wanted_free rfl) ?_
      unfold Oper.wp
      go_simp
      refine (read_any b _).mono ?_
      rintro e w' ⟨rfl, hB⟩
      exact hK _ _ (.inr rfl) (hF.j.below hB)
    · have ho' := ho
      obtain rfl := Option.some.inj ho
      have f9 : ac.tmps.getD 9 undef = .agg (numA b) := valv hF hd 4 rfl rfl (by kernel_rfl)
      refine step_do ho' (wanted_free rfl) ?_
      unfold Oper.wp
      go_simp
      refine (least_any b hb _ (hT.kp hF.j)).mono ?_
      rintro e w' ⟨rfl, hB⟩
      exact hK _ _ (.inr rfl) (hF.j.below hB)
    · have ho' := ho
      obtain rfl := Option.some.inj ho
      have f7 : ac.tmps.getD 7 undef = .agg (numA (a % pp)) := valv hF hd 2 rfl rfl (by kernel_rfl)
      have f10 : ac.tmps.getD 10 undef = .agg (numA (b % pp)) := valv hF hd 5 rfl rfl (by kernel_rfl)
      refine step_do ho' (wanted_free rfl) ?_
      unfold Oper.wp
      go_simp
      refine (fplus_any _ _ lt_of_mod lt_of_mod hs _).mono ?_
      rintro e w' ⟨rfl, hB⟩
      exact hK _ _ (.inr rfl) (hF.j.below hB)
    · have ho' := ho
      obtain rfl := Option.some.inj ho
      have f11 : ac.tmps.getD 11 undef = .agg (numA (a % pp + b % pp)) := valv hF hd 6 rfl rfl (by kernel_rfl)
      refine step_do ho' (wanted_free rfl) ?_
      unfold Oper.wp
      go_simp
      refine (write_any _ hs _ (hT.kp hF.j)).mono ?_
      rintro e w' ⟨rfl, hB⟩
      exact hK _ _ (.inr rfl) (hF.j.below hB)
    · have ho' := ho
      obtain rfl := Option.some.inj ho
      have f4 : ac.tmps.getD 4 undef = .pointer (some ⟨bR, 0, none⟩) := slotv hF 8 hLi 4 (by kernel_rfl)
      have f12 : ac.tmps.getD 12 undef = .agg (B32 (bdig ((a % pp + b % pp) % pp))) := valv hF hd 7 rfl rfl (by kernel_rfl)
      refine step_do ho' (wanted_free rfl) ?_
      have hj := hF.j
      rw [hLi] at hj
      refine wp_store_own 22 (.tmp 4) (.tmp 12) rfl bR (B32 (bdig ((a % pp + b % pp) % pp))) f4 f12 hj.h1 (B32_sizes _ _) (B32_info _) (B32_one _) rfl ?_
      exact hK undef _ (.inl rfl) (Kp.set hj (by simp; omega) hleR (B32_sizes _ _))
    · cases ho
  · intro L wq hL hKq
    rw [hL 8 (by decide)] at hKq
    simp only [putAll, valAdd, Act.put, List.setIfInBounds_toArray, List.set_cons_succ, List.set_cons_zero]
    go_wp2_with fail
    exact bodyPost_ret (results_own Tryd.results70 _ _ bR (B32 (bdig ((a % pp + b % pp) % pp))) _ (by rfl) hKq.h1 Tryd.underlying22 rfl (B32_info _)) rfl ⟨by rw [Hfin.out], hKq.2⟩
def valSub (a b : Nat) : Nat → Value
  | 0 => .agg (B32 (bdig a))
  | 1 => .agg (numA a)
  | 2 => .agg (numA (a % pp))
  | 3 => .agg (B32 (bdig b))
  | 4 => .agg (numA b)
  | 5 => .agg (numA (pp - b % pp))
  | 6 => .agg (numA (a % pp + (pp - b % pp)))
  | 7 => .agg (B32 (bdig ((a % pp + (pp - b % pp)) % pp)))
  | _ => undef
set_option maxRecDepth 100000 in
set_option maxHeartbeats 8000000 in
theorem psub_any (a b : Nat) (ha : a < R256) (hb : b < R256) (w : World) (hT : TP w) : Calls Tryd.prog 71 #[.agg (B32 (bdig a)), .agg (B32 (bdig b))] w fun x w' => x = .returned (.agg (B32 (bdig ((a % pp + pp - b % pp) % pp)))) ∧ Below w.heap.size w w' := by
  have hz := (zero_of_info zeroB32).1
  have hq : pp - b % pp < R256 := Nat.lt_of_le_of_lt (Nat.sub_le _ _) (by decide)
  have hs : a % pp + (pp - b % pp) < R256 := by
    have h1 := Nat.mod_lt a pp_pos
    generalize a % pp = x at *
    generalize b % pp = y at *
    unfold pp at h1 ⊢
    unfold R256
    omega
  have Hfin : Hid ((a % pp + (pp - b % pp)) % pp = (a % pp + pp - b % pp) % pp) := by
    show _ = _
    rw [Nat.add_sub_assoc (Nat.le_of_lt (Nat.mod_lt b pp_pos))]
  go_enter Tryd.func71, Tryd.ntmps71
  go_upto_region 1 with fail
  have hK := (((Kp.nil w).alloc (B32 (bdig a)) 22).alloc (B32 (bdig b)) 22).alloc (B32 fun _ => 0) 22
  rw [World.size_alloc, World.size_alloc] at hK
  generalize ((w.alloc (.cells (B32 (bdig a)) 22)).alloc (.cells (B32 (bdig b)) 22)).alloc (.cells (B32 fun _ => 0) 22) = W at *
  obtain ⟨bA, H1⟩ : ∃ bA, Hid (w.heap.size = bA) := ⟨_, rfl⟩
  obtain ⟨bB, H2⟩ : ∃ bB, Hid (bA + 1 = bB) := ⟨_, rfl⟩
  obtain ⟨bR, H3⟩ : ∃ bR, Hid (bB + 1 = bR) := ⟨_, rfl⟩
  have hleR : w.heap.size ≤ bR := by have := H1.out; have := H2.out; have := H3.out; omega
  have nA : bA ≠ bR := by have := H2.out; have := H3.out; omega
  have nB : bB ≠ bR := by have := H3.out; omega
  rw [H1.out, H2.out, H3.out] at hK ⊢
  refine wp_region_vals 13 (by kernel_rfl) (by kernel_rfl) (by rfl) (valSub a b) (fun L => Kp [(bR, if L 8 then B32 (bdig ((a % pp + (pp - b % pp)) % pp)) else B32 fun _ => 0, 22), (bB, B32 (bdig b), 22), (bA, B32 (bdig a), 22)] w) hK.drew ?_ ?_
  · intro L ac wc i o hF hLi ho hd K hK
    rcases i with _ | _ | _ | _ | _ | _ | _ | _ | _ | i
    · have ho' := ho
      obtain rfl := Option.some.inj ho
      have f2 : ac.tmps.getD 2 undef = .pointer (some ⟨bA, 0, none⟩) := slotv hF 0 hLi 2 (by kernel_rfl)
      refine step_do ho' (wanted_free rfl) ?_
      exact wp_load_own 22 (.tmp 2) rfl bA f2 (B32 (bdig a)) _ 22 hF.j.h3 Tryd.underlying22 rfl (B32_info _) (hK _ _ (.inr rfl) hF.j)
    · have ho' := ho
      obtain rfl := Option.some.inj ho
      have f5 : ac.tmps.getD 5 undef = .agg (B32 (bdig a)) := valv hF hd 0 rfl rfl (by kernel_rfl)
      refine step_do ho' (wanted_free rfl) ?_
      unfold Oper.wp
      go_simp
      refine (read_any a _).mono ?_
      rintro e w' ⟨rfl, hB⟩
      exact hK _ _ (.inr rfl) (hF.j.below hB)
    · have ho' := ho
      obtain rfl := Option.some.inj ho
      have f6 : ac.tmps.getD 6 undef = .agg (numA a) := valv hF hd 1 rfl rfl (by kernel_rfl)
      refine step_do ho' (wanted_free rfl) ?_
      unfold Oper.wp
      go_simp
      refine (least_any a ha _ (hT.kp hF.j)).mono ?_
      rintro e w' ⟨rfl, hB⟩
      exact hK _ _ (.inr rfl) (hF.j.below hB)
    · have ho' := ho
      obtain rfl := Option.some.inj ho
      have f3 : ac.tmps.getD 3 undef = .pointer (some ⟨bB, 0, none⟩) := slotv hF 3 hLi 3 (by kernel_rfl)
      refine step_do ho' (wanted_free rfl) ?_
      exact wp_load_own 22 (.tmp 3) rfl bB f3 (B32 (bdig b)) _ 22 hF.j.h2 Tryd.underlying22 rfl (B32_info _) (hK _ _ (.inr rfl) hF.j)
    · have ho' := ho
      obtain rfl := Option.some.inj ho
      have f8 : ac.tmps.getD 8 undef = .agg (B32 (bdig b)) := valv hF hd 3 rfl rfl (by kernel_rfl)
      refine step_do ho' (wanted_free rfl) ?_
      unfold Oper.wp
      go_simp
      refine (read_any b _).mono ?_
      rintro e w' ⟨rfl, hB⟩
      exact hK _ _ (.inr rfl) (hF.j.below hB)
    · have ho' := ho
      obtain rfl := Option.some.inj ho
      have f9 : ac.tmps.getD 9 undef = .agg (numA b) := valv hF hd 4 rfl rfl (by kernel_rfl)
      refine step_do ho' (wanted_free rfl) ?_
      unfold Oper.wp
      go_simp
      refine (opp_any b hb _ (hT.kp hF.j)).mono ?_
      rintro e w' ⟨rfl, hB⟩
      exact hK _ _ (.inr rfl) (hF.j.below hB)
    · have ho' := ho
      obtain rfl := Option.some.inj ho
      have f7 : ac.tmps.getD 7 undef = .agg (numA (a % pp)) := valv hF hd 2 rfl rfl (by kernel_rfl)
      have f10 : ac.tmps.getD 10 undef = .agg (numA (pp - b % pp)) := valv hF hd 5 rfl rfl (by kernel_rfl)
      refine step_do ho' (wanted_free rfl) ?_
      unfold Oper.wp
      go_simp
      refine (fplus_any _ _ lt_of_mod hq hs _).mono ?_
      rintro e w' ⟨rfl, hB⟩
      exact hK _ _ (.inr rfl) (hF.j.below hB)
    · have ho' := ho
      obtain rfl := Option.some.inj ho
      have f11 : ac.tmps.getD 11 undef = .agg (numA (a % pp + (pp - b % pp))) := valv hF hd 6 rfl rfl (by kernel_rfl)
      refine step_do ho' (wanted_free rfl) ?_
      unfold Oper.wp
      go_simp
      refine (write_any _ hs _ (hT.kp hF.j)).mono ?_
      rintro e w' ⟨rfl, hB⟩
      exact hK _ _ (.inr rfl) (hF.j.below hB)
    · have ho' := ho
      obtain rfl := Option.some.inj ho
      have f4 : ac.tmps.getD 4 undef = .pointer (some ⟨bR, 0, none⟩) := slotv hF 8 hLi 4 (by kernel_rfl)
      have f12 : ac.tmps.getD 12 undef = .agg (B32 (bdig ((a % pp + (pp - b % pp)) % pp))) := valv hF hd 7 rfl rfl (by kernel_rfl)
      refine step_do ho' (wanted_free rfl) ?_
      have hj := hF.j
      rw [hLi] at hj
      refine wp_store_own 22 (.tmp 4) (.tmp 12) rfl bR (B32 (bdig ((a % pp + (pp - b % pp)) % pp))) f4 f12 hj.h1 (B32_sizes _ _) (B32_info _) (B32_one _) rfl ?_
      exact hK undef _ (.inl rfl) (Kp.set hj (by simp; omega) hleR (B32_sizes _ _))
    · cases ho
  · intro L wq hL hKq
    rw [hL 8 (by decide)] at hKq
    simp only [putAll, valSub, Act.put, List.setIfInBounds_toArray, List.set_cons_succ, List.set_cons_zero]
    go_wp2_with fail
    exact bodyPost_ret (results_own Tryd.results71 _ _ bR (B32 (bdig ((a % pp + (pp - b % pp)) % pp))) _ (by rfl) hKq.h1 Tryd.underlying22 rfl (B32_info _)) rfl ⟨by rw [Hfin.out], hKq.2⟩
def valMul (a b : Nat) : Nat → Value
  | 0 => .agg (B32 (bdig a))
  | 1 => .agg (numA a)
  | 2 => .agg (B32 (bdig b))
  | 3 => .agg (numA b)
  | 4 => .agg (numA (tmul a b))
  | 5 => .agg (B32 (bdig (tmul a b % pp)))
  | _ => undef
set_option maxRecDepth 100000 in
set_option maxHeartbeats 8000000 in
theorem pmul_any (a b : Nat) (ha : a < R256) (hb : b < R256) (w : World) (hT : TP w) : Calls Tryd.prog 67 #[.agg (B32 (bdig a)), .agg (B32 (bdig b))] w fun x w' => x = .returned (.agg (B32 (bdig (a * b % pp)))) ∧ Below w.heap.size w w' := by
  have hz := (zero_of_info zeroB32).1
  have Hfin : Hid (tmul a b % pp = a * b % pp) := tmul_mod a b
  go_enter Tryd.func67, Tryd.ntmps67
  go_upto_region 1 with fail
  have hK := (((Kp.nil w).alloc (B32 (bdig a)) 22).alloc (B32 (bdig b)) 22).alloc (B32 fun _ => 0) 22
  rw [World.size_alloc, World.size_alloc] at hK
  generalize ((w.alloc (.cells (B32 (bdig a)) 22)).alloc (.cells (B32 (bdig b)) 22)).alloc (.cells (B32 fun _ => 0) 22) = W at *
  obtain ⟨bA, H1⟩ : ∃ bA, Hid (w.heap.size = bA) := ⟨_, rfl⟩
  obtain ⟨bB, H2⟩ : ∃ bB, Hid (bA + 1 = bB) := ⟨_, rfl⟩
  obtain ⟨bR, H3⟩ : ∃ bR, Hid (bB + 1 = bR) := ⟨_, rfl⟩
  have hleR : w.heap.size ≤ bR := by have := H1.out; have := H2.out; have := H3.out; omega
  have nA : bA ≠ bR := by have := H2.out; have := H3.out; omega
  have nB : bB ≠ bR := by have := H3.out; omega
  rw [H1.out, H2.out, H3.out] at hK ⊢
  refine wp_region_vals 11 (by kernel_rfl) (by kernel_rfl) (by rfl) (valMul a b) (fun L => Kp [(bR, if L 6 then B32 (bdig (tmul a b % pp)) else B32 fun _ => 0, 22), (bB, B32 (bdig b), 22), (bA, B32 (bdig a), 22)] w) hK.drew ?_ ?_
  · intro L ac wc i o hF hLi ho hd K hK
    rcases i with _ | _ | _ | _ | _ | _ | _ | i
    · have ho' := ho
      obtain rfl := Option.some.inj ho
      have f2 : ac.tmps.getD 2 undef = .pointer (some ⟨bA, 0, none⟩) := slotv hF 0 hLi 2 (by kernel_rfl)
      refine step_do ho' (wanted_free rfl) ?_
      exact wp_load_own 22 (.tmp 2) rfl bA f2 (B32 (bdig a)) _ 22 hF.j.h3 Tryd.underlying22 rfl (B32_info _) (hK _ _ (.inr rfl) hF.j)
    · have ho' := ho
      obtain rfl := Option.some.inj ho
      have f5 : ac.tmps.getD 5 undef = .agg (B32 (bdig a)) := valv hF hd 0 rfl rfl (by kernel_rfl)
      refine step_do ho' (wanted_free rfl) ?_
      unfold Oper.wp
      go_simp
      refine (read_any a _).mono ?_
      rintro e w' ⟨rfl, hB⟩
      exact hK _ _ (.inr rfl) (hF.j.below hB)
    · have ho' := ho
      obtain rfl := Option.some.inj ho
      have f3 : ac.tmps.getD 3 undef = .pointer (some ⟨bB, 0, none⟩) := slotv hF 2 hLi 3 (by kernel_rfl)
      refine step_do ho' (wanted_free rfl) ?_
      exact wp_load_own 22 (.tmp 3) rfl bB f3 (B32 (bdig b)) _ 22 hF.j.h2 Tryd.underlying22 rfl (B32_info _) (hK _ _ (.inr rfl) hF.j)
    · have ho' := ho
      obtain rfl := Option.some.inj ho
      have f7 : ac.tmps.getD 7 undef = .agg (B32 (bdig b)) := valv hF hd 2 rfl rfl (by kernel_rfl)
      refine step_do ho' (wanted_free rfl) ?_
      unfold Oper.wp
      go_simp
      refine (read_any b _).mono ?_
      rintro e w' ⟨rfl, hB⟩
      exact hK _ _ (.inr rfl) (hF.j.below hB)
    · have ho' := ho
      obtain rfl := Option.some.inj ho
      have f6 : ac.tmps.getD 6 undef = .agg (numA a) := valv hF hd 1 rfl rfl (by kernel_rfl)
      have f8 : ac.tmps.getD 8 undef = .agg (numA b) := valv hF hd 3 rfl rfl (by kernel_rfl)
      refine step_do ho' (wanted_free rfl) ?_
      unfold Oper.wp
      go_simp
      refine (ptimes_any a b ha hb _).mono ?_
      rintro e w' ⟨rfl, hB⟩
      exact hK _ _ (.inr rfl) (hF.j.below hB)
    · have ho' := ho
      obtain rfl := Option.some.inj ho
      have f9 : ac.tmps.getD 9 undef = .agg (numA (tmul a b)) := valv hF hd 4 rfl rfl (by kernel_rfl)
      refine step_do ho' (wanted_free rfl) ?_
      unfold Oper.wp
      go_simp
      refine (write_any _ (tmul_lt ha hb) _ (hT.kp hF.j)).mono ?_
      rintro e w' ⟨rfl, hB⟩
      exact hK _ _ (.inr rfl) (hF.j.below hB)
    · have ho' := ho
      obtain rfl := Option.some.inj ho
      have f4 : ac.tmps.getD 4 undef = .pointer (some ⟨bR, 0, none⟩) := slotv hF 6 hLi 4 (by kernel_rfl)
      have f10 : ac.tmps.getD 10 undef = .agg (B32 (bdig (tmul a b % pp))) := valv hF hd 5 rfl rfl (by kernel_rfl)
      refine step_do ho' (wanted_free rfl) ?_
      have hj := hF.j
      rw [hLi] at hj
      refine wp_store_own 22 (.tmp 4) (.tmp 10) rfl bR (B32 (bdig (tmul a b % pp))) f4 f10 hj.h1 (B32_sizes _ _) (B32_info _) (B32_one _) rfl ?_
      exact hK undef _ (.inl rfl) (Kp.set hj (by simp; omega) hleR (B32_sizes _ _))
    · cases ho
  · intro L wq hL hKq
    rw [hL 6 (by decide)] at hKq
    simp only [putAll, valMul, Act.put, List.setIfInBounds_toArray, List.set_cons_succ, List.set_cons_zero]
    go_wp2_with fail
    exact bodyPost_ret (results_own Tryd.results67 _ _ bR (B32 (bdig (tmul a b % pp))) _ (by rfl) hKq.h1 Tryd.underlying22 rfl (B32_info _)) rfl ⟨by rw [Hfin.out], hKq.2⟩
theorem fld : Fld TP where
  keep := fun _ _ h hB => h.keep hB
  check := pcheck_any
  mod := pmod_any
  add := padd_any
  sub := psub_any
  mul := pmul_any
end Go.Proofs.YtfkcphbbabaefaaDoor
namespace Go.Proofs.YtfkcphbbabaefaaDoor
open Go.RowKit
def tsq (n : Nat) : Nat → Nat
  | 0 => n
  | k + 1 => tmul (tsq n k) (tsq n k)
theorem tsq_lt {n : Nat} (hn : n < R256) : ∀ k, tsq n k < R256
  | 0 => hn
  | k + 1 => tmul_lt (tsq_lt hn k) (tsq_lt hn k)
def tones (n c : Nat) : Nat :=
  if c ≤ 1 then n else
  if c % 2 = 1 then tmul (tsq (tmul (tsq (tones n (c / 2)) (c / 2)) (tones n (c / 2))) 1) n else tmul (tsq (tones n (c / 2)) (c / 2)) (tones n (c / 2))
termination_by c
decreasing_by all_goals omega
theorem tones_one {n c : Nat} (h : c ≤ 1) : tones n c = n := by rw [tones, if_pos h]
theorem tones_odd {n c h x : Nat} (h1 : ¬ c ≤ 1) (h2 : c % 2 = 1) (hh : c / 2 = h) (hx : tones n h = x) : tones n c = tmul (tsq (tmul (tsq x h) x) 1) n := by rw [tones, if_neg h1, if_pos h2, hh, hx]
theorem tones_even {n c h x : Nat} (h1 : ¬ c ≤ 1) (h2 : ¬ c % 2 = 1) (hh : c / 2 = h) (hx : tones n h = x) : tones n c = tmul (tsq x h) x := by rw [tones, if_neg h1, if_neg h2, hh, hx]
theorem tones_lt {n : Nat} (hn : n < R256) (c : Nat) : tones n c < R256 := by
  induction c using Nat.strongRecOn with
  | _ c ih =>
    by_cases h1 : c ≤ 1
    · rw [tones_one h1]; exact hn
    · have hx := ih (c / 2) (by omega)
      by_cases h2 : c % 2 = 1
      · rw [tones_odd h1 h2 rfl rfl]; exact tmul_lt (tsq_lt (tmul_lt (tsq_lt hx _) hx) _) hn
      · rw [tones_even h1 h2 rfl rfl]; exact tmul_lt (tsq_lt hx _) hx
def PM (n i x : Nat) : Prop := x % pp = n ^ i % pp
theorem PM.one (n : Nat) : PM n 1 n := by unfold PM; rw [Nat.pow_one]
theorem PM.mul {n i j x y : Nat} (hx : PM n i x) (hy : PM n j y) : PM n (i + j) (tmul x y) := by
  unfold PM at *
  rw [tmul_mod, Nat.mul_mod, hx, hy, ← Nat.mul_mod, Nat.pow_add]
theorem PM.sq {n i x : Nat} (hx : PM n i x) : ∀ k, PM n (i * 2 ^ k) (tsq x k)
  | 0 => by rw [Nat.pow_zero, Nat.mul_one]; exact hx
  | k + 1 => by
    have h := PM.mul (PM.sq hx k) (PM.sq hx k)
    rw [Nat.pow_succ, ← Nat.mul_assoc, Nat.mul_two]
    exact h
theorem ones_exp (h : Nat) : (2 ^ h - 1) * 2 ^ h + (2 ^ h - 1) = 2 ^ (2 * h) - 1 := by
  have h1 : 0 < 2 ^ h := Nat.pow_pos (by decide)
  obtain ⟨q, hq⟩ : ∃ q, 2 ^ h = q + 1 := ⟨2 ^ h - 1, by omega⟩
  rw [Nat.two_mul, Nat.pow_add, hq, Nat.add_sub_cancel, Nat.add_mul, Nat.mul_add, Nat.mul_add]
  omega
theorem tones_pow (n c : Nat) (hc : 1 ≤ c) : PM n (2 ^ c - 1) (tones n c) := by
  induction c using Nat.strongRecOn with
  | _ c ih =>
    by_cases h1 : c ≤ 1
    · rw [tones_one h1, show c = 1 by omega]; exact PM.one n
    · have hx := ih (c / 2) (by omega) (by omega)
      have hp := PM.mul (PM.sq hx (c / 2)) hx
      rw [ones_exp] at hp
      by_cases h2 : c % 2 = 1
      · rw [tones_odd h1 h2 rfl rfl]
        have := PM.mul (PM.sq hp 1) (PM.one n)
        have e : (2 ^ (2 * (c / 2)) - 1) * 2 ^ 1 + 1 = 2 ^ c - 1 := by
          have h3 : 2 ^ c = 2 ^ (2 * (c / 2)) * 2 := by rw [← Nat.pow_succ]; congr 1; omega
          have h4 : 0 < 2 ^ (2 * (c / 2)) := Nat.pow_pos (by decide)
          rw [h3]; omega
        rw [e] at this
        exact this
      · rw [tones_even h1 h2 rfl rfl]
        rw [show 2 * (c / 2) = c by omega] at hp
        exact hp
set_option maxRecDepth 100000 in
set_option maxHeartbeats 8000000 in
theorem squared_any (n k : Nat) (hn : n < R256) (hk : k < 9223372036854775808) (w : World) :
    Calls Tryd.prog 90 #[.agg (numA (n)), .int .i64 (k : Int)] w fun r w' => r = .returned (.agg (numA (tsq n k))) ∧ Below w.heap.size w w' := by
  have hz := (zero_of_info zeroFN).1
  go_enter Tryd.func90, Tryd.ntmps90
  go_wp2_with fail
  have hK0 := ((Kp.nil w).alloc (numA n) 111).alloc (Q4 0 0 0 0) 111
  rw [World.size_alloc] at hK0
  rw [Q4_zero]
  generalize (w.alloc (.cells (numA n) 111)).alloc (.cells (Q4 0 0 0 0) 111) = W at *
  obtain ⟨bN, H1⟩ : ∃ bN, Hid (w.heap.size = bN) := ⟨_, rfl⟩
  obtain ⟨bR, H2⟩ : ∃ bR, Hid (bN + 1 = bR) := ⟨_, rfl⟩
  have hleN : w.heap.size ≤ bN := Nat.le_of_eq H1.out
  have hleR : w.heap.size ≤ bR := by have := H1.out; have := H2.out; omega
  have nR : bR ≠ bN := by have := H2.out; omega
  rw [H1.out, H2.out] at hK0 ⊢
  go_loopw [6] (fun ii wr => ∃ i : Nat, i ≤ k ∧ ii = .int .i64 (i : Int) ∧ Kp [(bN, numA (tsq n i), 111), (bR, Q4 0 0 0 0, 111)] w wr) (fun ii _ => k - (intOf ii).toNat)
  case atStart => exact ⟨0, by omega, rfl, hK0.sub (by simp [tsq])⟩
  case round =>
    obtain ⟨i, hi, rfl, hK⟩ := hrel
    have hi0 : (0 : Int) ≤ (i : Int) := by omega
    have hx := tsq_lt hn i
    obtain ⟨x, Hx⟩ : ∃ x, Hid (tsq n i = x) := ⟨_, rfl⟩
    rw [Hx.out] at hK hx
    by_cases hlt : i < k
    · have hlti : (i : Int) < (k : Int) := by omega
      go_wp2_with (refine wpList_load_own (by rfl) 111 (.tmp 2) (by rfl) bN (by rfl) (numA x) _ hK.h1 Tryd.underlying111 (by rfl) infoFN ?_)
      refine (ptimes_any x x hx hx _).mono ?_
      rintro r W1 ⟨rfl, bw⟩
      have hK := hK.below bw
      go_wp2_with (refine wpList_store_own (by rfl) 111 (.tmp 2) (.tmp 10) (by rfl) bN 0 (numA (tmul x x)) (by rfl) (by rfl) hK.h1 (Nat.le_refl _) infoFN (numA_one _) (by rfl) ?_)
      refine ⟨⟨i + 1, by omega, by go_num, ?_⟩, by simp [intOf]; omega⟩
      rw [show tsq n (i + 1) = tmul x x by rw [tsq, Hx.out]]
      exact Kp.set (A' := numA (tmul x x)) hK (by simp; omega) hleN rfl
    · have hlti : ¬ (i : Int) < (k : Int) := by omega
      have He : Hid (x = tsq n k) := by show _ = _; rw [← Hx.out, show i = k by omega]
      go_upto_region 5 with fail
      go_wp2_with (first
        | refine wpList_load_own (by rfl) 111 (.tmp 2) (by rfl) bN (by rfl) (numA x) _ hK.h1 Tryd.underlying111 (by rfl) infoFN ?_
        | refine wpList_store_own (by rfl) 111 (.tmp 4) (.tmp 12) (by rfl) bR 0 (numA x) (by rfl) (by rfl) hK.h2 (Nat.le_refl _) infoFN (numA_one _) (by rfl) ?_)
      exact bodyPost_ret (results_own Tryd.results90 _ _ bR (numA x) _ (by rfl) (own_setCells hK.h2 rfl) Tryd.underlying111 rfl infoFN) rfl ⟨by rw [He.out], Below.setCells _ _ _ _ hleR hK.2⟩
def factOnes (c h x : Nat) : Nat → Value → Prop
  | 0, v => v = .agg (numA (x))
  | 1, v => v = .int .i64 (c : Int)
  | 2, v => v = .int .i64 (h : Int)
  | 3, v => v = .agg (numA (tsq x h))
  | 4, v => v = .agg (numA (x))
  | 5, v => v = .agg (numA (tmul (tsq x h) x))
  | 6, v => ∃ g, v = .pointer (some ⟨g, 0, none⟩)
  | _, _ => True
def valOnes (n y : Nat) : Nat → Value
  | 0 => .agg (numA (y))
  | 1 => .agg (numA (tsq y 1))
  | 2 => .agg (numA (n))
  | 3 => .agg (numA (tmul (tsq y 1) n))
  | _ => undef
set_option maxRecDepth 100000 in
set_option maxHeartbeats 16000000 in
theorem ones_any (n : Nat) (hn : n < R256) : ∀ c : Nat, 1 ≤ c → c < 9223372036854775808 → ∀ w : World,
    Calls Tryd.prog 93 #[.agg (numA (n)), .int .i64 (c : Int)] w fun r w' => r = .returned (.agg (numA (tones n c))) ∧ Below w.heap.size w w' := by
  intro c
  induction c using Nat.strongRecOn with
  | _ c ih =>
  intro hc hc63 w
  have hz := (zero_of_info zeroFN).1
  go_enter Tryd.func93, Tryd.ntmps93
  go_upto_region 1 with fail
  have hK := ((Kp.nil w).alloc (numA n) 111).alloc (Q4 0 0 0 0) 111
  rw [World.size_alloc] at hK
  rw [Q4_zero]
  generalize (w.alloc (.cells (numA n) 111)).alloc (.cells (Q4 0 0 0 0) 111) = W at *
  obtain ⟨bN, H1⟩ : ∃ bN, Hid (w.heap.size = bN) := ⟨_, rfl⟩
  obtain ⟨bR, H2⟩ : ∃ bR, Hid (bN + 1 = bR) := ⟨_, rfl⟩
  have hleN : w.heap.size ≤ bN := Nat.le_of_eq H1.out
  have hleR : w.heap.size ≤ bR := by have := H1.out; have := H2.out; omega
  have nR : bN ≠ bR := by have := H2.out; omega
  rw [H1.out, H2.out] at hK ⊢
  have hK : Kp [(bN, numA n, 111), (bR, Q4 0 0 0 0, 111)] w W := hK.sub (by simp)
  by_cases h1 : c ≤ 1
  · have hci : (c : Int) = 1 := by omega
    have He : Hid (tones n c = n) := tones_one h1
    go_wp2_with (first
      | refine wpList_load_own (by rfl) 111 (.tmp 2) (by rfl) bN (by rfl) (numA n) _ hK.h1 Tryd.underlying111 (by rfl) infoFN ?_
      | refine wpList_store_own (by rfl) 111 (.tmp 4) (.tmp 9) (by rfl) bR 0 (numA n) (by rfl) (by rfl) hK.h2 (Nat.le_refl _) infoFN (numA_one _) (by rfl) ?_)
    exact bodyPost_ret (results_own Tryd.results93 _ _ bR (numA n) _ (by rfl) (own_setCells hK.h2 rfl) Tryd.underlying111 rfl infoFN) rfl ⟨by rw [He.out], Below.setCells _ _ _ _ hleR hK.2⟩
  · have hci : ¬ (c : Int) = 1 := by omega
    have hdv : (c : Int).tdiv 2 = ((c / 2 : Nat) : Int) := by rw [Int.tdiv_eq_ediv_of_nonneg (by omega)]; omega
    have hmd : (c : Int).tmod 2 = ((c % 2 : Nat) : Int) := by rw [Int.tmod_eq_emod_of_nonneg (by omega)]; omega
    have hrec := ih (c / 2) (by omega) (by omega) (by omega)
    have hx := tones_lt hn (c / 2)
    have hh63 : c / 2 < 9223372036854775808 := by omega
    obtain ⟨h, Hh⟩ : ∃ h, Hid (c / 2 = h) := ⟨_, rfl⟩
    rw [Hh.out] at hdv hrec hx hh63
    obtain ⟨x, Hx⟩ : ∃ x, Hid (tones n h = x) := ⟨_, rfl⟩
    rw [Hx.out] at hrec hx
    have H1c := show Hid _ from h1
    have hwr : IntKind.i64.wrap (h : Int) = (h : Int) := by simp [IntKind.wrap, IntKind.bits, IntKind.signed]; omega
    clear h1 ih
    go_wp2_with (refine wpList_load_own (by rfl) 111 (.tmp 2) (by rfl) bN (by rfl) (numA n) _ hK.h1 Tryd.underlying111 (by rfl) infoFN ?_)
    refine (hrec W).mono ?_
    rintro r W1 ⟨rfl, bw⟩
    have hK := hK.below bw
    have lN := hK.h1.lt
    have lR := hK.h2.lt
    go_upto_region 4 with (refine wpList_store_new (by rfl) 111 (.tmp 5) (.tmp 13) (by rfl) _ (numA x) (by rfl) (by rfl) infoFN rfl (numA_one _) (by rfl) ?_)
    have hK := hK.alloc (numA x) 111
    generalize W1.alloc (.cells (numA x) 111) = W2 at *
    obtain ⟨bF, H3⟩ : ∃ bF, Hid (W1.heap.size = bF) := ⟨_, rfl⟩
    rw [H3.out] at hK lN lR ⊢
    refine wp_region_told 28 (by kernel_rfl) (by kernel_rfl) (by rfl) (factOnes c h x) (fun L vs => Mk [(bF, numA x, 111), (bN, numA n, 111), (bR, Q4 0 0 0 0, 111)] w (Q4 0 0 0 0) (numA (tmul (tsq x h) x)) 111 (L 6) (L 7) (vs 6)) (fun _ => Mk.drew hK) ?_ ?_
    · intro L vs ac wc i o hF hLi ho hd K hK
      rcases i with _ | _ | _ | _ | _ | _ | _ | _ | i
      · have ho' := ho
        obtain rfl := Option.some.inj ho
        have f5 : ac.tmps.getD 5 undef = .pointer (some ⟨bF, 0, none⟩) := slott hF 0 hLi 5 (by kernel_rfl)
        refine step_do ho' (wanted_free rfl) ?_
        exact wp_load_own 111 (.tmp 5) rfl bF f5 (numA x) _ 111 hF.j.1.h1 Tryd.underlying111 rfl infoFN (hK _ _ (.inr rfl) hF.j)
      · have ho' := ho
        obtain rfl := Option.some.inj ho
        have f1 : ac.tmps.getD 1 undef = .int .i64 (c : Int) := slott hF 1 hLi 1 (by kernel_rfl)
        refine step_do ho' (wanted_free rfl) ?_
        unfold Oper.wp
        go_simp
        exact hK _ _ (.inr rfl) hF.j
      · have ho' := ho
        obtain rfl := Option.some.inj ho
        have f15 : ac.tmps.getD 15 undef = .int .i64 (c : Int) := (factt hF hd 1 rfl rfl (by kernel_rfl)).1.trans (factt hF hd 1 rfl rfl (by kernel_rfl)).2
        refine step_do ho' (wanted_free rfl) ?_
        unfold Oper.wp
        go_simp
        exact hK _ _ (.inr rfl) hF.j
      · have ho' := ho
        obtain rfl := Option.some.inj ho
        have f14 : ac.tmps.getD 14 undef = .agg (numA (x)) := (factt hF hd 0 rfl rfl (by kernel_rfl)).1.trans (factt hF hd 0 rfl rfl (by kernel_rfl)).2
        have f16 : ac.tmps.getD 16 undef = .int .i64 (h : Int) := (factt hF hd 2 rfl rfl (by kernel_rfl)).1.trans (factt hF hd 2 rfl rfl (by kernel_rfl)).2
        refine step_do ho' (wanted_free rfl) ?_
        unfold Oper.wp
        go_simp
        refine (squared_any x h hx hh63 _).mono ?_
        rintro e w' ⟨rfl, hB⟩
        exact hK _ _ (.inr rfl) (hF.j.below hB)
      · have ho' := ho
        obtain rfl := Option.some.inj ho
        have f5 : ac.tmps.getD 5 undef = .pointer (some ⟨bF, 0, none⟩) := slott hF 4 hLi 5 (by kernel_rfl)
        refine step_do ho' (wanted_free rfl) ?_
        exact wp_load_own 111 (.tmp 5) rfl bF f5 (numA x) _ 111 hF.j.1.h1 Tryd.underlying111 rfl infoFN (hK _ _ (.inr rfl) hF.j)
      · have ho' := ho
        obtain rfl := Option.some.inj ho
        have f17 : ac.tmps.getD 17 undef = .agg (numA (tsq x h)) := (factt hF hd 3 rfl rfl (by kernel_rfl)).1.trans (factt hF hd 3 rfl rfl (by kernel_rfl)).2
        have f18 : ac.tmps.getD 18 undef = .agg (numA (x)) := (factt hF hd 4 rfl rfl (by kernel_rfl)).1.trans (factt hF hd 4 rfl rfl (by kernel_rfl)).2
        refine step_do ho' (wanted_free rfl) ?_
        unfold Oper.wp
        go_simp
        refine (ptimes_any _ _ (tsq_lt hx h) hx _).mono ?_
        rintro e w' ⟨rfl, hB⟩
        exact hK _ _ (.inr rfl) (hF.j.below hB)
      · have ho' := ho
        obtain rfl := Option.some.inj ho
        refine step_do ho' (wanted_free rfl) ?_
        have hs := notyett hF 6 hLi 7 rfl (by kernel_rfl)
        unfold Oper.wp
        go_simp
        rw [Q4_zero]
        exact hK _ _ (.inr ⟨_, rfl⟩) (Mk.alloc hF.j.1 hs)
      · have ho' := ho
        obtain rfl := Option.some.inj ho
        have f19 : ac.tmps.getD 19 undef = .agg (numA (tmul (tsq x h) x)) := (factt hF hd 5 rfl rfl (by kernel_rfl)).1.trans (factt hF hd 5 rfl rfl (by kernel_rfl)).2
        refine step_do ho' (wanted_free rfl) ?_
        obtain ⟨fg, g, hg⟩ := factt hF hd 6 rfl rfl (by kernel_rfl)
        have hm := dep hd 6 (by kernel_rfl)
        have hj := hF.j
        rw [hg] at fg
        have hj2 := hj.at hm hg hLi
        refine wp_store_own 111 (.tmp 6) (.tmp 19) rfl g (numA (tmul (tsq x h) x)) fg f19 hj2.2.2 rfl infoFN (numA_one _) rfl ?_
        exact hK undef _ (.inl rfl) (hj.store hm hg hLi rfl)
      · cases ho
    · intro L vs wq hL hJ hf
      obtain ⟨g, hg⟩ := hf 6 _ _ rfl rfl
      obtain ⟨hK, hgl, hgn⟩ := hJ.done (hL 6 (by decide)) hg (hL 7 (by decide))
      have e0 : vs 0 = _ := hf 0 _ _ rfl rfl
      have e1 : vs 1 = _ := hf 1 _ _ rfl rfl
      have e2 : vs 2 = _ := hf 2 _ _ rfl rfl
      have e3 : vs 3 = _ := hf 3 _ _ rfl rfl
      have e4 : vs 4 = _ := hf 4 _ _ rfl rfl
      have e5 : vs 5 = _ := hf 5 _ _ rfl rfl
      simp only [putAll, Nat.zero_add, Nat.reduceAdd, e0, e1, e2, e3, e4, e5, hg, Act.put, List.setIfInBounds_toArray, List.set_cons_succ, List.set_cons_zero]
      have hy := tmul_lt (tsq_lt hx h) hx
      obtain ⟨y, Hy⟩ : ∃ y, Hid (tmul (tsq x h) x = y) := ⟨_, rfl⟩
      rw [Hy.out] at hK hy ⊢
      have ngF : bF ≠ g := hgn (bF, numA x, 111) (by simp)
      have ngN : bN ≠ g := hgn (bN, numA n, 111) (by simp)
      have ngR : bR ≠ g := hgn (bR, Q4 0 0 0 0, 111) (by simp)
      by_cases h2 : c % 2 = 1
      · have hmi : ((c % 2 : Nat) : Int) = 1 := by omega
        have He : Hid (tones n c = tmul (tsq y 1) n) := by show _ = _; rw [tones_odd H1c.out h2 Hh.out Hx.out, Hy.out]
        have HM := show Hid _ from hmd.trans hmi
        rw [hmi] at hmd
        go_upto_region 6 with fail
        refine wp_region_vals 28 (by kernel_rfl) (by kernel_rfl) (by rfl) (valOnes n y) (fun L => Kp [(g, if L 4 then numA (tmul (tsq y 1) n) else numA y, 111), (bF, numA x, 111), (bN, numA n, 111), (bR, Q4 0 0 0 0, 111)] w) hK.drew ?_ ?_
        · intro L ac wc i o hF hLi ho hd K hK
          rcases i with _ | _ | _ | _ | _ | i
          · have ho' := ho
            obtain rfl := Option.some.inj ho
            have f6 : ac.tmps.getD 6 undef = .pointer (some ⟨g, 0, none⟩) := slotv hF 0 hLi 6 (by kernel_rfl)
            refine step_do ho' (wanted_free rfl) ?_
            have h4 := notyet hF 0 hLi 4 rfl (by kernel_rfl)
            have hj := hF.j
            rw [h4] at hj
            exact wp_load_own 111 (.tmp 6) rfl g f6 (numA y) _ 111 hj.h1 Tryd.underlying111 rfl infoFN (hK _ _ (.inr rfl) hF.j)
          · have ho' := ho
            obtain rfl := Option.some.inj ho
            have f23 : ac.tmps.getD 23 undef = .agg (numA (y)) := valv hF hd 0 rfl rfl (by kernel_rfl)
            refine step_do ho' (wanted_free rfl) ?_
            unfold Oper.wp
            go_simp
            refine (squared_any y 1 hy (by decide) _).mono ?_
            rintro e w' ⟨rfl, hB⟩
            exact hK _ _ (.inr rfl) (hF.j.below hB)
          · have ho' := ho
            obtain rfl := Option.some.inj ho
            have f2 : ac.tmps.getD 2 undef = .pointer (some ⟨bN, 0, none⟩) := slotv hF 2 hLi 2 (by kernel_rfl)
            refine step_do ho' (wanted_free rfl) ?_
            exact wp_load_own 111 (.tmp 2) rfl bN f2 (numA n) _ 111 hF.j.h3 Tryd.underlying111 rfl infoFN (hK _ _ (.inr rfl) hF.j)
          · have ho' := ho
            obtain rfl := Option.some.inj ho
            have f24 : ac.tmps.getD 24 undef = .agg (numA (tsq y 1)) := valv hF hd 1 rfl rfl (by kernel_rfl)
            have f25 : ac.tmps.getD 25 undef = .agg (numA (n)) := valv hF hd 2 rfl rfl (by kernel_rfl)
            refine step_do ho' (wanted_free rfl) ?_
            unfold Oper.wp
            go_simp
            refine (ptimes_any _ _ (tsq_lt hy 1) hn _).mono ?_
            rintro e w' ⟨rfl, hB⟩
            exact hK _ _ (.inr rfl) (hF.j.below hB)
          · have ho' := ho
            obtain rfl := Option.some.inj ho
            have f6 : ac.tmps.getD 6 undef = .pointer (some ⟨g, 0, none⟩) := slotv hF 4 hLi 6 (by kernel_rfl)
            have f26 : ac.tmps.getD 26 undef = .agg (numA (tmul (tsq y 1) n)) := valv hF hd 3 rfl rfl (by kernel_rfl)
            refine step_do ho' (wanted_free rfl) ?_
            have hj := hF.j
            rw [hLi] at hj
            refine wp_store_own 111 (.tmp 6) (.tmp 26) rfl g (numA (tmul (tsq y 1) n)) f6 f26 hj.h1 rfl infoFN (numA_one _) rfl ?_
            exact hK undef _ (.inl rfl) (Kp.set hj (by simp; omega) hgl rfl)
          · cases ho
        · intro L wz hL hK
          rw [hL 4 (by decide)] at hK
          simp only [putAll, valOnes, Act.put, List.setIfInBounds_toArray, List.set_cons_succ, List.set_cons_zero]
          go_upto_region 7 with fail
          have hK : Kp [(g, numA (tmul (tsq y 1) n), 111), (bF, numA x, 111), (bN, numA n, 111), (bR, Q4 0 0 0 0, 111)] w wz := hK
          go_wp2_with (first
            | refine wpList_load_own (by rfl) 111 (.tmp 6) (by rfl) g (by rfl) (numA (tmul (tsq y 1) n)) _ hK.h1 Tryd.underlying111 (by rfl) infoFN ?_
            | refine wpList_store_own (by rfl) 111 (.tmp 4) (.tmp 27) (by rfl) bR 0 (numA (tmul (tsq y 1) n)) (by rfl) (by rfl) hK.h4 (Nat.le_refl _) infoFN (numA_one _) (by rfl) ?_)
          exact bodyPost_ret (results_own Tryd.results93 _ _ bR (numA (tmul (tsq y 1) n)) _ (by rfl) (own_setCells hK.h4 rfl) Tryd.underlying111 rfl infoFN) rfl ⟨by rw [He.out], Below.setCells _ _ _ _ hleR hK.2⟩
      · have hmi : ¬ ((c % 2 : Nat) : Int) = 1 := by omega
        have He : Hid (tones n c = y) := by show _ = _; rw [tones_even H1c.out h2 Hh.out Hx.out, Hy.out]
        go_upto_region 7 with fail
        go_wp2_with (first
          | refine wpList_load_own (by rfl) 111 (.tmp 6) (by rfl) g (by rfl) (numA y) _ hK.h1 Tryd.underlying111 (by rfl) infoFN ?_
          | refine wpList_store_own (by rfl) 111 (.tmp 4) (.tmp 27) (by rfl) bR 0 (numA y) (by rfl) (by rfl) hK.h4 (Nat.le_refl _) infoFN (numA_one _) (by rfl) ?_)
        exact bodyPost_ret (results_own Tryd.results93 _ _ bR (numA y) _ (by rfl) (own_setCells hK.h4 rfl) Tryd.underlying111 rfl infoFN) rfl ⟨by rw [He.out], Below.setCells _ _ _ _ hleR hK.2⟩
end Go.Proofs.YtfkcphbbabaefaaDoor
