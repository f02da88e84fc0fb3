/- Of the texts E6: what the card of this claim reaches. -/
import Derived.Test.YtfkcphbbabaefaaGreatDoorXD9
namespace Go.Proofs.YtfkcphbbabaefaaGreatDoor
open Go.RowKit
theorem add_small {a b s : Nat} (ha : a < pp) (hb : b < pp + 1) (hs : a + b = s) (w : World) :
    Calls Tryz.prog 82 #[.agg (numA a), .agg (numA b)] w fun e w' => e = .returned (.tuple #[.agg (numA s), .int .u64 0]) ∧ Below w.heap.size w w' := by
  have h2 : 2 * pp < R256 := by decide
  refine (add_any a b (by omega) (by omega) w).mono ?_
  rintro e w' ⟨⟨d, c, rfl, hd, hc, he⟩, hB⟩
  have : c = 0 ∨ c = 1 := by omega
  rcases this with rfl | rfl
  · obtain rfl : d = s := by omega
    exact ⟨rfl, hB⟩
  · omega
def factA (a b s : Nat) : Nat → Value → Prop
  | 0, v => v = .agg (numA a)
  | 1, v => v = .agg (numA (a % pp))
  | 2, v => v = .agg (numA b)
  | 3, v => v = .agg (numA (b % pp))
  | 6, v => v = .agg (numA s)
  | 7, v => v = .int .u64 0
  | 8, v => ∃ g, v = .pointer (some ⟨g, 0, none⟩)
  | 10, v => v = .int .u64 0
  | _, v => v = .tuple #[.agg (numA s), .int .u64 0]
set_option maxRecDepth 100000 in
set_option maxHeartbeats 4000000 in
theorem fadd_any (a b : Nat) (ha : a < R256) (hb : b < R256) (w : World) : Calls Tryz.prog 67 #[.agg (numA a), .agg (numA b)] w fun e w' => e = .returned (.agg (numA ((a + b) % pp))) ∧ Below w.heap.size w w' := by
  have hz := (zero_of_info zeroNum).1
  have hs1 := Nat.mod_lt a pp_pos
  have hs2 : b % pp < pp + 1 := Nat.lt_succ_of_lt (Nat.mod_lt b pp_pos)
  obtain ⟨s, Hs⟩ : ∃ s, Hid (a % pp + b % pp = s) := ⟨_, rfl⟩
  have hsR : s < R256 := by
    have h2 : 2 * pp < R256 := by decide
    have := Hs.out
    omega
  obtain ⟨r, Hr⟩ : ∃ r, Hid ((a + b) % pp = r) := ⟨_, rfl⟩
  have Hend : Hid (s % pp = r) := by show _ = _; rw [← Hr.out, ← Hs.out, ← Nat.add_mod]
  rw [Hr.out]
  clear Hr
  go_enter Tryz.func67, Tryz.ntmps67
  go_upto_region 1 with fail
  have hK0 := (((Kp.nil w).alloc (numA a) 50).alloc (numA b) 50).alloc (numA 0) 50
  rw [World.size_alloc, World.size_alloc] at hK0
  rw [← zero_num]
  generalize ((w.alloc (.cells (numA a) 50)).alloc (.cells (numA b) 50)).alloc (.cells (numA 0) 50) = W at *
  obtain ⟨bA, HA⟩ : ∃ bA, Hid (w.heap.size = bA) := ⟨_, rfl⟩
  obtain ⟨bB, HB⟩ : ∃ bB, Hid (bA + 1 = bB) := ⟨_, rfl⟩
  obtain ⟨bR, HR⟩ : ∃ bR, Hid (bB + 1 = bR) := ⟨_, rfl⟩
  have hle : w.heap.size ≤ bR := by have := HA.out; have := HB.out; have := HR.out; omega
  rw [HA.out, HB.out, HR.out] at hK0 ⊢
  refine wp_region_told 18 (by kernel_rfl) (by kernel_rfl) (by rfl) (factA a b s) (fun L vs => Mk [(bR, numA 0, 50), (bB, numA b, 50), (bA, numA a, 50)] w (numA 0) (numA s) 50 (L 8) (L 9) (vs 8)) (fun _ => Mk.drew hK0) ?_ ?_
  · intro L vs ac wc i o hF hLi ho hd K hK
    rcases i with _ | _ | _ | _ | _ | _ | _ | _ | _ | _ | _ | i
    · have ho' := ho
      obtain rfl := Option.some.inj ho
      have f2 : ac.tmps.getD 2 undef = .pointer (some ⟨bA, 0, none⟩) := slott hF 0 hLi 2 (by kernel_rfl)
      refine step_do ho' (wanted_free rfl) ?_
      exact wp_load_own 50 (.tmp 2) rfl bA f2 (numA a) _ 50 (hF.j.1.at bA (numA a) 50 (by simp)) Tryz.underlying50 rfl (numA_info a) (hK _ _ (.inr rfl) hF.j)
    · have ho' := ho
      obtain rfl := Option.some.inj ho
      have f8 : ac.tmps.getD 8 undef = .agg (numA a) := (factt hF hd 0 rfl rfl (by kernel_rfl)).1.trans (factt hF hd 0 rfl rfl (by kernel_rfl)).2
      refine step_do ho' (wanted_free rfl) ?_
      unfold Oper.wp
      go_simp
      refine (mod_any a ha _).mono ?_
      rintro e w' ⟨rfl, hB⟩
      exact hK _ _ (.inr rfl) (hF.j.below hB)
    · have ho' := ho
      obtain rfl := Option.some.inj ho
      have f3 : ac.tmps.getD 3 undef = .pointer (some ⟨bB, 0, none⟩) := slott hF 2 hLi 3 (by kernel_rfl)
      refine step_do ho' (wanted_free rfl) ?_
      exact wp_load_own 50 (.tmp 3) rfl bB f3 (numA b) _ 50 (hF.j.1.at bB (numA b) 50 (by simp)) Tryz.underlying50 rfl (numA_info b) (hK _ _ (.inr rfl) hF.j)
    · have ho' := ho
      obtain rfl := Option.some.inj ho
      have f10 : ac.tmps.getD 10 undef = .agg (numA b) := (factt hF hd 2 rfl rfl (by kernel_rfl)).1.trans (factt hF hd 2 rfl rfl (by kernel_rfl)).2
      refine step_do ho' (wanted_free rfl) ?_
      unfold Oper.wp
      go_simp
      refine (mod_any b hb _).mono ?_
      rintro e w' ⟨rfl, hB⟩
      exact hK _ _ (.inr rfl) (hF.j.below hB)
    · have ho' := ho
      obtain rfl := Option.some.inj ho
      have f9 : ac.tmps.getD 9 undef = .agg (numA (a % pp)) := (factt hF hd 1 rfl rfl (by kernel_rfl)).1.trans (factt hF hd 1 rfl rfl (by kernel_rfl)).2
      have f11 : ac.tmps.getD 11 undef = .agg (numA (b % pp)) := (factt hF hd 3 rfl rfl (by kernel_rfl)).1.trans (factt hF hd 3 rfl rfl (by kernel_rfl)).2
      refine step_do ho' (wanted_free rfl) ?_
      unfold Oper.wp
      go_simp
      refine (add_small hs1 hs2 Hs.out _).mono ?_
      rintro e w' ⟨rfl, hB⟩
      exact hK _ _ (.inr rfl) (hF.j.below hB)
    · have ho' := ho
      obtain rfl := Option.some.inj ho
      have f12 : ac.tmps.getD 12 undef = .tuple #[.agg (numA s), .int .u64 0] := (factt hF hd 4 rfl rfl (by kernel_rfl)).1.trans (factt hF hd 4 rfl rfl (by kernel_rfl)).2
      refine step_do ho' (wanted_free rfl) ?_
      unfold Oper.wp
      go_simp
      exact hK _ _ (.inr rfl) hF.j
    · have ho' := ho
      obtain rfl := Option.some.inj ho
      have f7 : ac.tmps.getD 7 undef = .tuple #[.agg (numA s), .int .u64 0] := (factt hF hd 5 rfl rfl (by kernel_rfl)).1.trans (factt hF hd 5 rfl rfl (by kernel_rfl)).2
      refine step_do ho' (wanted_free rfl) ?_
      unfold Oper.wp
      go_simp
      exact hK _ _ (.inr rfl) hF.j
    · have ho' := ho
      obtain rfl := Option.some.inj ho
      have f7 : ac.tmps.getD 7 undef = .tuple #[.agg (numA s), .int .u64 0] := (factt hF hd 5 rfl rfl (by kernel_rfl)).1.trans (factt hF hd 5 rfl rfl (by kernel_rfl)).2
      refine step_do ho' (wanted_free rfl) ?_
      unfold Oper.wp
      go_simp
      exact hK _ _ (.inr rfl) hF.j
    · have ho' := ho
      obtain rfl := Option.some.inj ho
      refine step_do ho' (wanted_free rfl) ?_
      have h9 := notyett hF 8 hLi 9 rfl (by kernel_rfl)
      unfold Oper.wp
      go_simp
      rw [← zero_num]
      exact hK _ _ (.inr ⟨_, rfl⟩) (Mk.alloc hF.j.1 h9)
    · have ho' := ho
      obtain rfl := Option.some.inj ho
      have f13 : ac.tmps.getD 13 undef = .agg (numA s) := (factt hF hd 6 rfl rfl (by kernel_rfl)).1.trans (factt hF hd 6 rfl rfl (by kernel_rfl)).2
      refine step_do ho' (wanted_free rfl) ?_
      obtain ⟨f5, g, hg⟩ := factt hF hd 8 rfl rfl (by kernel_rfl)
      have h8 := dep hd 8 (by kernel_rfl)
      have hj := hF.j
      rw [hg] at f5
      have hj2 := hj.at h8 hg hLi
      refine wp_store_own 50 (.tmp 5) (.tmp 13) rfl g (numA s) f5 f13 hj2.2.2 rfl (numA_info s) (numA_one s) rfl ?_
      exact hK undef _ (.inl rfl) (hj.store h8 hg hLi rfl)
    · have ho' := ho
      obtain rfl := Option.some.inj ho
      have f14 : ac.tmps.getD 14 undef = .int .u64 0 := (factt hF hd 7 rfl rfl (by kernel_rfl)).1.trans (factt hF hd 7 rfl rfl (by kernel_rfl)).2
      refine step_do ho' (wanted_free rfl) ?_
      unfold Oper.wp
      go_simp
      exact hK _ _ (.inr rfl) hF.j
    · cases ho
  · intro L vs wq hL hJ hf
    obtain ⟨g, hg⟩ := hf 8 _ _ rfl rfl
    obtain ⟨hKq, hgl, hgn⟩ := hJ.done (hL 8 (by decide)) hg (hL 9 (by decide))
    have e0 : vs 0 = _ := hf 0 _ _ rfl rfl
    have e1 : vs 1 = _ := hf 1 _ _ rfl rfl
    have e2 : vs 2 = _ := hf 2 _ _ rfl rfl
    have e3 : vs 3 = _ := hf 3 _ _ rfl rfl
    have e4 : vs 4 = _ := hf 4 _ _ rfl rfl
    have e5 : vs 5 = _ := hf 5 _ _ rfl rfl
    have e6 : vs 6 = _ := hf 6 _ _ rfl rfl
    have e7 : vs 7 = _ := hf 7 _ _ rfl rfl
    have e10 : vs 10 = _ := hf 10 _ _ rfl rfl
    simp only [putAll, Nat.zero_add, Nat.reduceAdd, e0, e1, e2, e3, e4, e5, e6, e7, hg, e10]
    go_upto_region 3 with fail
    go_wp2_with (refine wpList_load_own (by rfl) 50 (.tmp 5) (by rfl) g (by rfl) (numA s) _ (hKq.at g (numA s) 50 (by simp)) Tryz.underlying50 (by rfl) (numA_info s) ?_)
    refine (mod_any s hsR wq).mono ?_
    rintro e w2 ⟨rfl, hB2⟩
    have hK2 := hKq.below hB2
    rw [Hend.out]
    go_wp2_with (refine wpList_store_own (by rfl) 50 (.tmp 4) (.tmp 17) (by rfl) bR 0 (numA r) (by rfl) (by rfl) (hK2.at bR (numA 0) 50 (by simp)) (Nat.le_refl _) (numA_info r) (numA_one r) (by rfl) ?_)
    refine bodyPost_ret (results_own Tryz.results67 _ _ bR (numA r) _ (by rfl) (own_setCells (hK2.at bR (numA 0) 50 (by simp)) rfl) Tryz.underlying50 rfl (numA_info r)) rfl ⟨rfl, ?_⟩
    exact Below.setCells _ _ _ _ hle hK2.2
def valD (b s y : Nat) : Nat → Value
  | 0 => .agg (numA s)
  | 1 => .agg (numA b)
  | 2 => .agg (numA (b % pp))
  | 5 => .agg (numA y)
  | 6 => .int .u64 0
  | _ => .tuple #[.agg (numA y), .int .u64 0]
set_option maxRecDepth 100000 in
set_option maxHeartbeats 4000000 in
theorem fsub_any (a b : Nat) (ha : a < R256) (hb : b < R256) (w : World) : Calls Tryz.prog 65 #[.agg (numA a), .agg (numA b)] w fun e w' => e = .returned (.agg (numA ((a % pp + pp - b % pp) % pp))) ∧ Below w.heap.size w w' := by
  have hz := (zero_of_info zeroNum).1
  have hs1 := Nat.mod_lt a pp_pos
  have hs2 := Nat.mod_lt b pp_pos
  obtain ⟨s, Hs⟩ : ∃ s, Hid (a % pp + pp = s) := ⟨_, rfl⟩
  obtain ⟨y, Hy⟩ : ∃ y, Hid (s = y + b % pp) := ⟨s - b % pp, by show _ = _; have := Hs.out; omega⟩
  have h2p : 2 * pp < R256 := by decide
  have hsR : s < R256 := by have := Hs.out; omega
  have hs2R : b % pp < R256 := by omega
  have hyR : y < R256 := by have := Hy.out; omega
  obtain ⟨r, Hr⟩ : ∃ r, Hid ((a % pp + pp - b % pp) % pp = r) := ⟨_, rfl⟩
  have Hend : Hid (y % pp = r) := by show _ = _; rw [← Hr.out, Hs.out, Hy.out, Nat.add_sub_cancel]
  rw [Hr.out]
  clear Hr
  go_enter Tryz.func65, Tryz.ntmps65
  go_upto_region 1 with fail
  have hK0 := (((Kp.nil w).alloc (numA a) 50).alloc (numA b) 50).alloc (numA 0) 50
  rw [World.size_alloc, World.size_alloc] at hK0
  rw [← zero_num]
  generalize ((w.alloc (.cells (numA a) 50)).alloc (.cells (numA b) 50)).alloc (.cells (numA 0) 50) = W at *
  obtain ⟨bA, HA⟩ : ∃ bA, Hid (w.heap.size = bA) := ⟨_, rfl⟩
  obtain ⟨bB, HB⟩ : ∃ bB, Hid (bA + 1 = bB) := ⟨_, rfl⟩
  obtain ⟨bR, HR⟩ : ∃ bR, Hid (bB + 1 = bR) := ⟨_, rfl⟩
  have hle : w.heap.size ≤ bR := by have := HA.out; have := HB.out; have := HR.out; omega
  rw [HA.out, HB.out, HR.out] at hK0 ⊢
  go_wp2_with (refine wpList_load_own (by rfl) 50 (.tmp 2) (by rfl) bA (by rfl) (numA a) _ (hK0.at bA (numA a) 50 (by simp)) Tryz.underlying50 (by rfl) (numA_info a) ?_)
  refine (mod_any a ha W).mono ?_
  rintro e w1 ⟨rfl, hB1⟩
  have hK1 := hK0.below hB1
  go_wp2_with fail
  refine (P_any w1).mono ?_
  rintro e w2 ⟨rfl, hB2⟩
  have hK2 := hK1.below hB2
  go_wp2_with fail
  refine (add_small hs1 (Nat.lt_succ_self pp) Hs.out w2).mono ?_
  rintro e w3 ⟨rfl, hB3⟩
  have hK3 := (hK2.below hB3).alloc (numA s) 50
  have hne : ∀ p ∈ [(bR, numA 0, 50), (bB, numA b, 50), (bA, numA a, 50)], p.1 ≠ w3.heap.size := fun p hp => Nat.ne_of_lt ((hK2.below hB3).1 p hp).lt
  have hle5 := (hK2.below hB3).2.size
  clear hK2 hK1 hK0
  go_wp2_with (refine wpList_store_new (by rfl) 50 (.tmp 5) (.tmp 12) (by rfl) _ (numA s) (by rfl) (by rfl) (numA_info s) (by rfl) (numA_one s) (by rfl) ?_)
  generalize w3.alloc (.cells (numA s) 50) = W3 at *
  generalize w3.heap.size = b5 at *
  have n1 := hne (bR, numA 0, 50) (by simp)
  have n2 := hne (bB, numA b, 50) (by simp)
  have n3 := hne (bA, numA a, 50) (by simp)
  simp only at n1 n2 n3
  refine wp_region_vals 23 (by kernel_rfl) (by kernel_rfl) (by rfl) (valD b s y) (fun L => Kp [(b5, if L 7 = true then numA y else numA s, 50), (bR, numA 0, 50), (bB, numA b, 50), (bA, numA a, 50)] w) hK3.drew ?_ ?_
  · intro L ac wc i o hF hLi ho hd K hK
    rcases i with _ | _ | _ | _ | _ | _ | _ | _ | i
    · have ho' := ho
      obtain rfl := Option.some.inj ho
      have f5 : ac.tmps.getD 5 undef = .pointer (some ⟨b5, 0, none⟩) := slotv hF 0 hLi 5 (by kernel_rfl)
      refine step_do ho' (wanted_free rfl) ?_
      have hn7 := notyet hF 0 hLi 7 rfl (by kernel_rfl)
      have hj := hF.j
      rw [hn7] at hj
      exact wp_load_own 50 (.tmp 5) rfl b5 f5 (numA s) _ 50 (hj.at b5 (numA s) 50 (by simp)) Tryz.underlying50 rfl (numA_info s) (hK _ _ (.inr rfl) hF.j)
    · have ho' := ho
      obtain rfl := Option.some.inj ho
      have f3 : ac.tmps.getD 3 undef = .pointer (some ⟨bB, 0, none⟩) := slotv hF 1 hLi 3 (by kernel_rfl)
      refine step_do ho' (wanted_free rfl) ?_
      exact wp_load_own 50 (.tmp 3) rfl bB f3 (numA b) _ 50 (hF.j.at bB (numA b) 50 (by simp)) Tryz.underlying50 rfl (numA_info b) (hK _ _ (.inr rfl) hF.j)
    · have ho' := ho
      obtain rfl := Option.some.inj ho
      have f16 : ac.tmps.getD 16 undef = .agg (numA b) := valv hF hd 1 rfl rfl (by kernel_rfl)
      refine step_do ho' (wanted_free rfl) ?_
      unfold Oper.wp
      go_simp
      refine (mod_any b hb _).mono ?_
      rintro e w' ⟨rfl, hB⟩
      exact hK _ _ (.inr rfl) (hF.j.below hB)
    · have ho' := ho
      obtain rfl := Option.some.inj ho
      have f15 : ac.tmps.getD 15 undef = .agg (numA s) := valv hF hd 0 rfl rfl (by kernel_rfl)
      have f17 : ac.tmps.getD 17 undef = .agg (numA (b % pp)) := valv hF hd 2 rfl rfl (by kernel_rfl)
      refine step_do ho' (wanted_free rfl) ?_
      unfold Oper.wp
      go_simp
      refine (sub_big hsR hs2R Hy.out _).mono ?_
      rintro e w' ⟨rfl, hB⟩
      exact hK _ _ (.inr rfl) (hF.j.below hB)
    · have ho' := ho
      obtain rfl := Option.some.inj ho
      have f18 : ac.tmps.getD 18 undef = .tuple #[.agg (numA y), .int .u64 0] := valv hF hd 3 rfl rfl (by kernel_rfl)
      refine step_do ho' (wanted_free rfl) ?_
      unfold Oper.wp
      go_simp
      exact hK _ _ (.inr rfl) hF.j
    · have ho' := ho
      obtain rfl := Option.some.inj ho
      have f14 : ac.tmps.getD 14 undef = .tuple #[.agg (numA y), .int .u64 0] := valv hF hd 4 rfl rfl (by kernel_rfl)
      refine step_do ho' (wanted_free rfl) ?_
      unfold Oper.wp
      go_simp
      exact hK _ _ (.inr rfl) hF.j
    · have ho' := ho
      obtain rfl := Option.some.inj ho
      have f14 : ac.tmps.getD 14 undef = .tuple #[.agg (numA y), .int .u64 0] := valv hF hd 4 rfl rfl (by kernel_rfl)
      refine step_do ho' (wanted_free rfl) ?_
      unfold Oper.wp
      go_simp
      exact hK _ _ (.inr rfl) hF.j
    · have ho' := ho
      obtain rfl := Option.some.inj ho
      have f5 : ac.tmps.getD 5 undef = .pointer (some ⟨b5, 0, none⟩) := slotv hF 7 hLi 5 (by kernel_rfl)
      have f19 : ac.tmps.getD 19 undef = .agg (numA y) := valv hF hd 5 rfl rfl (by kernel_rfl)
      refine step_do ho' (wanted_free rfl) ?_
      have hj := hF.j
      rw [hLi] at hj
      refine wp_store_own 50 (.tmp 5) (.tmp 19) rfl b5 (numA y) f5 f19 (hj.at b5 (numA s) 50 (by simp)) rfl (numA_info y) (numA_one y) rfl ?_
      exact hK undef _ (.inl rfl) (Kp.set hj (by simp; omega) (by omega) rfl)
    · cases ho
  · intro L wq hL hKq
    have h7 := hL 7 (by decide)
    rw [h7] at hKq
    have hKq : Kp [(b5, numA y, 50), (bR, numA 0, 50), (bB, numA b, 50), (bA, numA a, 50)] w wq := hKq
    simp only [putAll, valD]
    go_upto_region 3 with fail
    go_wp2_with (refine wpList_load_own (by rfl) 50 (.tmp 5) (by rfl) b5 (by rfl) (numA y) _ (hKq.at b5 (numA y) 50 (by simp)) Tryz.underlying50 (by rfl) (numA_info y) ?_)
    refine (mod_any y hyR wq).mono ?_
    rintro e w2 ⟨rfl, hB2⟩
    have hK2 := hKq.below hB2
    rw [Hend.out]
    go_wp2_with (refine wpList_store_own (by rfl) 50 (.tmp 4) (.tmp 22) (by rfl) bR 0 (numA r) (by rfl) (by rfl) (hK2.at bR (numA 0) 50 (by simp)) (Nat.le_refl _) (numA_info r) (numA_one r) (by rfl) ?_)
    refine bodyPost_ret (results_own Tryz.results65 _ _ bR (numA r) _ (by rfl) (own_setCells (hK2.at bR (numA 0) 50 (by simp)) rfl) Tryz.underlying50 rfl (numA_info r)) rfl ⟨rfl, ?_⟩
    exact Below.setCells _ _ _ _ hle hK2.2
end Go.Proofs.YtfkcphbbabaefaaGreatDoor
