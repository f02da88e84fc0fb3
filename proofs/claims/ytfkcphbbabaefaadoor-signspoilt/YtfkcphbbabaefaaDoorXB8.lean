/- Of the texts E6, E7: what the card of this claim reaches. -/
import Derived.Test.YtfkcphbbabaefaaDoorXB7
import Derived.Test.YtfkcphbbabaefaaDoorXB3
namespace Go.Proofs.YtfkcphbbabaefaaDoor
open Go.RowKit
theorem add_small {a b s : Nat} (ha : a < pp) (hb : b < pp + 1) (hs : a + b = s) (w : World) :
    Calls Tryd.prog 74 #[.agg (numA a), .agg (numA b)] w fun e w' => e = .returned (.tuple #[.agg (numA s), .int .u64 0]) ∧ Below w.heap.size w w' := by
  have h2 : 2 * pp < R256 := by decide
  refine (add_any a b (by omega) (by omega) w).mono ?_
  rintro e w' ⟨⟨d, c, rfl, hd, hc, he⟩, hB⟩
  have : c = 0 ∨ c = 1 := by omega
  rcases this with rfl | rfl
  · obtain rfl : d = s := by omega
    exact ⟨rfl, hB⟩
  · omega
def factA (a b s : Nat) : Nat → Value → Prop
  | 0, v => v = .agg (numA a)
  | 1, v => v = .agg (numA (a % pp))
  | 2, v => v = .agg (numA b)
  | 3, v => v = .agg (numA (b % pp))
  | 6, v => v = .agg (numA s)
  | 7, v => v = .int .u64 0
  | 8, v => ∃ g, v = .pointer (some ⟨g, 0, none⟩)
  | 10, v => v = .int .u64 0
  | _, v => v = .tuple #[.agg (numA s), .int .u64 0]
set_option maxRecDepth 100000 in
set_option maxHeartbeats 4000000 in
theorem fadd_any (a b : Nat) (ha : a < R256) (hb : b < R256) (w : World) : Calls Tryd.prog 49 #[.agg (numA a), .agg (numA b)] w fun e w' => e = .returned (.agg (numA ((a + b) % pp))) ∧ Below w.heap.size w w' := by
  have hz := (zero_of_info zeroNum).1
  have hs1 := Nat.mod_lt a pp_pos
  have hs2 : b % pp < pp + 1 := Nat.lt_succ_of_lt (Nat.mod_lt b pp_pos)
  obtain ⟨s, Hs⟩ : ∃ s, Hid (a % pp + b % pp = s) := ⟨_, rfl⟩
  have hsR : s < R256 := by
    have h2 : 2 * pp < R256 := by decide
    have := Hs.out
    omega
  obtain ⟨r, Hr⟩ : ∃ r, Hid ((a + b) % pp = r) := ⟨_, rfl⟩
  have Hend : Hid (s % pp = r) := by show _ = _; rw [← Hr.out, ← Hs.out, ← Nat.add_mod]
  rw [Hr.out]
  clear Hr
  go_enter Tryd.func49, Tryd.ntmps49
  go_upto_region 1 with fail
  have hK0 := (((Kp.nil w).alloc (numA a) 35).alloc (numA b) 35).alloc (numA 0) 35
  rw [World.size_alloc, World.size_alloc] at hK0
  rw [← zero_num]
  generalize ((w.alloc (.cells (numA a) 35)).alloc (.cells (numA b) 35)).alloc (.cells (numA 0) 35) = W at *
  obtain ⟨bA, HA⟩ : ∃ bA, Hid (w.heap.size = bA) := ⟨_, rfl⟩
  obtain ⟨bB, HB⟩ : ∃ bB, Hid (bA + 1 = bB) := ⟨_, rfl⟩
  obtain ⟨bR, HR⟩ : ∃ bR, Hid (bB + 1 = bR) := ⟨_, rfl⟩
  have hle : w.heap.size ≤ bR := by have := HA.out; have := HB.out; have := HR.out; omega
  rw [HA.out, HB.out, HR.out] at hK0 ⊢
  refine wp_region_told 18 (by kernel_rfl) (by kernel_rfl) (by rfl) (factA a b s) (fun L vs => Mk [(bR, numA 0, 35), (bB, numA b, 35), (bA, numA a, 35)] w (numA 0) (numA s) 35 (L 8) (L 9) (vs 8)) (fun _ => Mk.drew hK0) ?_ ?_
  · intro L vs ac wc i o hF hLi ho hd K hK
    rcases i with _ | _ | _ | _ | _ | _ | _ | _ | _ | _ | _ | i
    · have ho' := ho
      obtain rfl := Option.some.inj ho
      have f2 : ac.tmps.getD 2 undef = .pointer (some ⟨bA, 0, none⟩) := slott hF 0 hLi 2 (by kernel_rfl)
      refine step_do ho' (wanted_free rfl) ?_
      exact wp_load_own 35 (.tmp 2) rfl bA f2 (numA a) _ 35 (hF.j.1.at bA (numA a) 35 (by simp)) Tryd.underlying35 rfl (numA_info a) (hK _ _ (.inr rfl) hF.j)
    · have ho' := ho
      obtain rfl := Option.some.inj ho
      have f8 : ac.tmps.getD 8 undef = .agg (numA a) := (factt hF hd 0 rfl rfl (by kernel_rfl)).1.trans (factt hF hd 0 rfl rfl (by kernel_rfl)).2
      refine step_do ho' (wanted_free rfl) ?_
      unfold Oper.wp
      go_simp
      refine (mod_any a ha _).mono ?_
      rintro e w' ⟨rfl, hB⟩
      exact hK _ _ (.inr rfl) (hF.j.below hB)
    · have ho' := ho
      obtain rfl := Option.some.inj ho
      have f3 : ac.tmps.getD 3 undef = .pointer (some ⟨bB, 0, none⟩) := slott hF 2 hLi 3 (by kernel_rfl)
      refine step_do ho' (wanted_free rfl) ?_
      exact wp_load_own 35 (.tmp 3) rfl bB f3 (numA b) _ 35 (hF.j.1.at bB (numA b) 35 (by simp)) Tryd.underlying35 rfl (numA_info b) (hK _ _ (.inr rfl) hF.j)
    · have ho' := ho
      obtain rfl := Option.some.inj ho
      have f10 : ac.tmps.getD 10 undef = .agg (numA b) := (factt hF hd 2 rfl rfl (by kernel_rfl)).1.trans (factt hF hd 2 rfl rfl (by kernel_rfl)).2
      refine step_do ho' (wanted_free rfl) ?_
      unfold Oper.wp
      go_simp
      refine (mod_any b hb _).mono ?_
      rintro e w' ⟨rfl, hB⟩
      exact hK _ _ (.inr rfl) (hF.j.below hB)
    · have ho' := ho
      obtain rfl := Option.some.inj ho
      have f9 : ac.tmps.getD 9 undef = .agg (numA (a % pp)) := (factt hF hd 1 rfl rfl (by kernel_rfl)).1.trans (factt hF hd 1 rfl rfl (by kernel_rfl)).2
      have f11 : ac.tmps.getD 11 undef = .agg (numA (b % pp)) := (factt hF hd 3 rfl rfl (by kernel_rfl)).1.trans (factt hF hd 3 rfl rfl (by kernel_rfl)).2
      refine step_do ho' (wanted_free rfl) ?_
      unfold Oper.wp
      go_simp
      refine (add_small hs1 hs2 Hs.out _).mono ?_
      rintro e w' ⟨rfl, hB⟩
      exact hK _ _ (.inr rfl) (hF.j.below hB)
    · have ho' := ho
      obtain rfl := Option.some.inj ho
      have f12 : ac.tmps.getD 12 undef = .tuple #[.agg (numA s), .int .u64 0] := (factt hF hd 4 rfl rfl (by kernel_rfl)).1.trans (factt hF hd 4 rfl rfl (by kernel_rfl)).2
      refine step_do ho' (wanted_free rfl) ?_
      unfold Oper.wp
      go_simp
      exact hK _ _ (.inr rfl) hF.j
    · have ho' := ho
      obtain rfl := Option.some.inj ho
      have f7 : ac.tmps.getD 7 undef = .tuple #[.agg (numA s), .int .u64 0] := (factt hF hd 5 rfl rfl (by kernel_rfl)).1.trans (factt hF hd 5 rfl rfl (by kernel_rfl)).2
      refine step_do ho' (wanted_free rfl) ?_
      unfold Oper.wp
      go_simp
      exact hK _ _ (.inr rfl) hF.j
    · have ho' := ho
      obtain rfl := Option.some.inj ho
      have f7 : ac.tmps.getD 7 undef = .tuple #[.agg (numA s), .int .u64 0] := (factt hF hd 5 rfl rfl (by kernel_rfl)).1.trans (factt hF hd 5 rfl rfl (by kernel_rfl)).2
      refine step_do ho' (wanted_free rfl) ?_
      unfold Oper.wp
      go_simp
      exact hK _ _ (.inr rfl) hF.j
    · have ho' := ho
      obtain rfl := Option.some.inj ho
      refine step_do ho' (wanted_free rfl) ?_
      have h9 := notyett hF 8 hLi 9 rfl (by kernel_rfl)
      unfold Oper.wp
      go_simp
      rw [← zero_num]
      exact hK _ _ (.inr ⟨_, rfl⟩) (Mk.alloc hF.j.1 h9)
    · have ho' := ho
      obtain rfl := Option.some.inj ho
      have f13 : ac.tmps.getD 13 undef = .agg (numA s) := (factt hF hd 6 rfl rfl (by kernel_rfl)).1.trans (factt hF hd 6 rfl rfl (by kernel_rfl)).2
      refine step_do ho' (wanted_free rfl) ?_
      obtain ⟨f5, g, hg⟩ := factt hF hd 8 rfl rfl (by kernel_rfl)
      have h8 := dep hd 8 (by kernel_rfl)
      have hj := hF.j
      rw [hg] at f5
      have hj2 := hj.at h8 hg hLi
      refine wp_store_own 35 (.tmp 5) (.tmp 13) rfl g (numA s) f5 f13 hj2.2.2 rfl (numA_info s) (numA_one s) rfl ?_
      exact hK undef _ (.inl rfl) (hj.store h8 hg hLi rfl)
    · have ho' := ho
      obtain rfl := Option.some.inj ho
      have f14 : ac.tmps.getD 14 undef = .int .u64 0 := (factt hF hd 7 rfl rfl (by kernel_rfl)).1.trans (factt hF hd 7 rfl rfl (by kernel_rfl)).2
      refine step_do ho' (wanted_free rfl) ?_
      unfold Oper.wp
      go_simp
      exact hK _ _ (.inr rfl) hF.j
    · cases ho
  · intro L vs wq hL hJ hf
    obtain ⟨g, hg⟩ := hf 8 _ _ rfl rfl
    obtain ⟨hKq, hgl, hgn⟩ := hJ.done (hL 8 (by decide)) hg (hL 9 (by decide))
    have e0 : vs 0 = _ := hf 0 _ _ rfl rfl
    have e1 : vs 1 = _ := hf 1 _ _ rfl rfl
    have e2 : vs 2 = _ := hf 2 _ _ rfl rfl
    have e3 : vs 3 = _ := hf 3 _ _ rfl rfl
    have e4 : vs 4 = _ := hf 4 _ _ rfl rfl
    have e5 : vs 5 = _ := hf 5 _ _ rfl rfl
    have e6 : vs 6 = _ := hf 6 _ _ rfl rfl
    have e7 : vs 7 = _ := hf 7 _ _ rfl rfl
    have e10 : vs 10 = _ := hf 10 _ _ rfl rfl
    simp only [putAll, Nat.zero_add, Nat.reduceAdd, e0, e1, e2, e3, e4, e5, e6, e7, hg, e10]
    go_upto_region 3 with fail
    go_wp2_with (refine wpList_load_own (by rfl) 35 (.tmp 5) (by rfl) g (by rfl) (numA s) _ (hKq.at g (numA s) 35 (by simp)) Tryd.underlying35 (by rfl) (numA_info s) ?_)
    refine (mod_any s hsR wq).mono ?_
    rintro e w2 ⟨rfl, hB2⟩
    have hK2 := hKq.below hB2
    rw [Hend.out]
    go_wp2_with (refine wpList_store_own (by rfl) 35 (.tmp 4) (.tmp 17) (by rfl) bR 0 (numA r) (by rfl) (by rfl) (hK2.at bR (numA 0) 35 (by simp)) (Nat.le_refl _) (numA_info r) (numA_one r) (by rfl) ?_)
    refine bodyPost_ret (results_own Tryd.results49 _ _ bR (numA r) _ (by rfl) (own_setCells (hK2.at bR (numA 0) 35 (by simp)) rfl) Tryd.underlying35 rfl (numA_info r)) rfl ⟨rfl, ?_⟩
    exact Below.setCells _ _ _ _ hle hK2.2
def valD (b s y : Nat) : Nat → Value
  | 0 => .agg (numA s)
  | 1 => .agg (numA b)
  | 2 => .agg (numA (b % pp))
  | 5 => .agg (numA y)
  | 6 => .int .u64 0
  | _ => .tuple #[.agg (numA y), .int .u64 0]
set_option maxRecDepth 100000 in
set_option maxHeartbeats 4000000 in
theorem fsub_any (a b : Nat) (ha : a < R256) (hb : b < R256) (w : World) : Calls Tryd.prog 47 #[.agg (numA a), .agg (numA b)] w fun e w' => e = .returned (.agg (numA ((a % pp + pp - b % pp) % pp))) ∧ Below w.heap.size w w' := by
  have hz := (zero_of_info zeroNum).1
  have hs1 := Nat.mod_lt a pp_pos
  have hs2 := Nat.mod_lt b pp_pos
  obtain ⟨s, Hs⟩ : ∃ s, Hid (a % pp + pp = s) := ⟨_, rfl⟩
  obtain ⟨y, Hy⟩ : ∃ y, Hid (s = y + b % pp) := ⟨s - b % pp, by show _ = _; have := Hs.out; omega⟩
  have h2p : 2 * pp < R256 := by decide
  have hsR : s < R256 := by have := Hs.out; omega
  have hs2R : b % pp < R256 := by omega
  have hyR : y < R256 := by have := Hy.out; omega
  obtain ⟨r, Hr⟩ : ∃ r, Hid ((a % pp + pp - b % pp) % pp = r) := ⟨_, rfl⟩
  have Hend : Hid (y % pp = r) := by show _ = _; rw [← Hr.out, Hs.out, Hy.out, Nat.add_sub_cancel]
  rw [Hr.out]
  clear Hr
  go_enter Tryd.func47, Tryd.ntmps47
  go_upto_region 1 with fail
  have hK0 := (((Kp.nil w).alloc (numA a) 35).alloc (numA b) 35).alloc (numA 0) 35
  rw [World.size_alloc, World.size_alloc] at hK0
  rw [← zero_num]
  generalize ((w.alloc (.cells (numA a) 35)).alloc (.cells (numA b) 35)).alloc (.cells (numA 0) 35) = W at *
  obtain ⟨bA, HA⟩ : ∃ bA, Hid (w.heap.size = bA) := ⟨_, rfl⟩
  obtain ⟨bB, HB⟩ : ∃ bB, Hid (bA + 1 = bB) := ⟨_, rfl⟩
  obtain ⟨bR, HR⟩ : ∃ bR, Hid (bB + 1 = bR) := ⟨_, rfl⟩
  have hle : w.heap.size ≤ bR := by have := HA.out; have := HB.out; have := HR.out; omega
  rw [HA.out, HB.out, HR.out] at hK0 ⊢
  go_wp2_with (refine wpList_load_own (by rfl) 35 (.tmp 2) (by rfl) bA (by rfl) (numA a) _ (hK0.at bA (numA a) 35 (by simp)) Tryd.underlying35 (by rfl) (numA_info a) ?_)
  refine (mod_any a ha W).mono ?_
  rintro e w1 ⟨rfl, hB1⟩
  have hK1 := hK0.below hB1
  go_wp2_with fail
  refine (P_any w1).mono ?_
  rintro e w2 ⟨rfl, hB2⟩
  have hK2 := hK1.below hB2
  go_wp2_with fail
  refine (add_small hs1 (Nat.lt_succ_self pp) Hs.out w2).mono ?_
  rintro e w3 ⟨rfl, hB3⟩
  have hK3 := (hK2.below hB3).alloc (numA s) 35
  have hne : ∀ p ∈ [(bR, numA 0, 35), (bB, numA b, 35), (bA, numA a, 35)], p.1 ≠ w3.heap.size := fun p hp => Nat.ne_of_lt ((hK2.below hB3).1 p hp).lt
  have hle5 := (hK2.below hB3).2.size
  clear hK2 hK1 hK0
  go_wp2_with (refine wpList_store_new (by rfl) 35 (.tmp 5) (.tmp 12) (by rfl) _ (numA s) (by rfl) (by rfl) (numA_info s) (by rfl) (numA_one s) (by rfl) ?_)
  generalize w3.alloc (.cells (numA s) 35) = W3 at *
  generalize w3.heap.size = b5 at *
  have n1 := hne (bR, numA 0, 35) (by simp)
  have n2 := hne (bB, numA b, 35) (by simp)
  have n3 := hne (bA, numA a, 35) (by simp)
  simp only at n1 n2 n3
  refine wp_region_vals 23 (by kernel_rfl) (by kernel_rfl) (by rfl) (valD b s y) (fun L => Kp [(b5, if L 7 = true then numA y else numA s, 35), (bR, numA 0, 35), (bB, numA b, 35), (bA, numA a, 35)] w) hK3.drew ?_ ?_
  · intro L ac wc i o hF hLi ho hd K hK
    rcases i with _ | _ | _ | _ | _ | _ | _ | _ | i
    · have ho' := ho
      obtain rfl := Option.some.inj ho
      have f5 : ac.tmps.getD 5 undef = .pointer (some ⟨b5, 0, none⟩) := slotv hF 0 hLi 5 (by kernel_rfl)
      refine step_do ho' (wanted_free rfl) ?_
      have hn7 := notyet hF 0 hLi 7 rfl (by kernel_rfl)
      have hj := hF.j
      rw [hn7] at hj
      exact wp_load_own 35 (.tmp 5) rfl b5 f5 (numA s) _ 35 (hj.at b5 (numA s) 35 (by simp)) Tryd.underlying35 rfl (numA_info s) (hK _ _ (.inr rfl) hF.j)
    · have ho' := ho
      obtain rfl := Option.some.inj ho
      have f3 : ac.tmps.getD 3 undef = .pointer (some ⟨bB, 0, none⟩) := slotv hF 1 hLi 3 (by kernel_rfl)
      refine step_do ho' (wanted_free rfl) ?_
      exact wp_load_own 35 (.tmp 3) rfl bB f3 (numA b) _ 35 (hF.j.at bB (numA b) 35 (by simp)) Tryd.underlying35 rfl (numA_info b) (hK _ _ (.inr rfl) hF.j)
    · have ho' := ho
      obtain rfl := Option.some.inj ho
      have f16 : ac.tmps.getD 16 undef = .agg (numA b) := valv hF hd 1 rfl rfl (by kernel_rfl)
      refine step_do ho' (wanted_free rfl) ?_
      unfold Oper.wp
      go_simp
      refine (mod_any b hb _).mono ?_
      rintro e w' ⟨rfl, hB⟩
      exact hK _ _ (.inr rfl) (hF.j.below hB)
    · have ho' := ho
      obtain rfl := Option.some.inj ho
      have f15 : ac.tmps.getD 15 undef = .agg (numA s) := valv hF hd 0 rfl rfl (by kernel_rfl)
      have f17 : ac.tmps.getD 17 undef = .agg (numA (b % pp)) := valv hF hd 2 rfl rfl (by kernel_rfl)
      refine step_do ho' (wanted_free rfl) ?_
      unfold Oper.wp
      go_simp
      refine (sub_big hsR hs2R Hy.out _).mono ?_
      rintro e w' ⟨rfl, hB⟩
      exact hK _ _ (.inr rfl) (hF.j.below hB)
    · have ho' := ho
      obtain rfl := Option.some.inj ho
      have f18 : ac.tmps.getD 18 undef = .tuple #[.agg (numA y), .int .u64 0] := valv hF hd 3 rfl rfl (by kernel_rfl)
      refine step_do ho' (wanted_free rfl) ?_
      unfold Oper.wp
      go_simp
      exact hK _ _ (.inr rfl) hF.j
    · have ho' := ho
      obtain rfl := Option.some.inj ho
      have f14 : ac.tmps.getD 14 undef = .tuple #[.agg (numA y), .int .u64 0] := valv hF hd 4 rfl rfl (by kernel_rfl)
      refine step_do ho' (wanted_free rfl) ?_
      unfold Oper.wp
      go_simp
      exact hK _ _ (.inr rfl) hF.j
    · have ho' := ho
      obtain rfl := Option.some.inj ho
      have f14 : ac.tmps.getD 14 undef = .tuple #[.agg (numA y), .int .u64 0] := valv hF hd 4 rfl rfl (by kernel_rfl)
      refine step_do ho' (wanted_free rfl) ?_
      unfold Oper.wp
      go_simp
      exact hK _ _ (.inr rfl) hF.j
    · have ho' := ho
      obtain rfl := Option.some.inj ho
      have f5 : ac.tmps.getD 5 undef = .pointer (some ⟨b5, 0, none⟩) := slotv hF 7 hLi 5 (by kernel_rfl)
      have f19 : ac.tmps.getD 19 undef = .agg (numA y) := valv hF hd 5 rfl rfl (by kernel_rfl)
      refine step_do ho' (wanted_free rfl) ?_
      have hj := hF.j
      rw [hLi] at hj
      refine wp_store_own 35 (.tmp 5) (.tmp 19) rfl b5 (numA y) f5 f19 (hj.at b5 (numA s) 35 (by simp)) rfl (numA_info y) (numA_one y) rfl ?_
      exact hK undef _ (.inl rfl) (Kp.set hj (by simp; omega) (by omega) rfl)
    · cases ho
  · intro L wq hL hKq
    have h7 := hL 7 (by decide)
    rw [h7] at hKq
    have hKq : Kp [(b5, numA y, 35), (bR, numA 0, 35), (bB, numA b, 35), (bA, numA a, 35)] w wq := hKq
    simp only [putAll, valD]
    go_upto_region 3 with fail
    go_wp2_with (refine wpList_load_own (by rfl) 35 (.tmp 5) (by rfl) b5 (by rfl) (numA y) _ (hKq.at b5 (numA y) 35 (by simp)) Tryd.underlying35 (by rfl) (numA_info y) ?_)
    refine (mod_any y hyR wq).mono ?_
    rintro e w2 ⟨rfl, hB2⟩
    have hK2 := hKq.below hB2
    rw [Hend.out]
    go_wp2_with (refine wpList_store_own (by rfl) 35 (.tmp 4) (.tmp 22) (by rfl) bR 0 (numA r) (by rfl) (by rfl) (hK2.at bR (numA 0) 35 (by simp)) (Nat.le_refl _) (numA_info r) (numA_one r) (by rfl) ?_)
    refine bodyPost_ret (results_own Tryd.results47 _ _ bR (numA r) _ (by rfl) (own_setCells (hK2.at bR (numA 0) 35 (by simp)) rfl) Tryd.underlying35 rfl (numA_info r)) rfl ⟨rfl, ?_⟩
    exact Below.setCells _ _ _ _ hle hK2.2
end Go.Proofs.YtfkcphbbabaefaaDoor
namespace Go.Proofs.YtfkcphbbabaefaaDoor
open Go.RowKit
theorem mul64_at {x y h l : Nat} (hx : x < 18446744073709551616) (hy : y < 18446744073709551616) (hl : l < 18446744073709551616) (e : x * y = l + 18446744073709551616 * h) (w : World) :
    Calls Tryd.prog 62 #[.int .u64 (x : Int), .int .u64 (y : Int)] w fun e w' => e = .returned (.tuple #[.int .u64 (h : Int), .int .u64 (l : Int)]) ∧ w' = w := by
  refine (mul64_any x y hx hy w).mono ?_
  rintro e w' ⟨⟨h', l', rfl, hh, hl', he⟩, rfl⟩
  obtain rfl : h' = h := by omega
  obtain rfl : l' = l := by omega
  exact ⟨rfl, rfl⟩
def valM (f g : Nat → Nat) (i k bA bB hi lo : Nat) : Nat → Value
  | 0 => .int .i64 (i : Int)
  | 1 => .pointer (some ⟨bA, i, none⟩)
  | 2 => .int .u64 (f i : Int)
  | 3 => .int .i64 (k : Int)
  | 4 => .pointer (some ⟨bB, k, none⟩)
  | 5 => .int .u64 (g k : Int)
  | 8 => .int .u64 (hi : Int)
  | 9 => .int .u64 (lo : Int)
  | 10 => .int .u64 (hi : Int)
  | 11 => .int .u64 (lo : Int)
  | _ => .tuple #[.int .u64 (hi : Int), .int .u64 (lo : Int)]
theorem zeroA8 : (Tryd.prog.info? 55).map (fun i => (i.zero, i.size)) = some (some (.agg (A8 fun _ => 0)), 8) := by kernel_rfl
set_option maxRecDepth 100000 in
set_option maxHeartbeats 8000000 in
theorem times_dig (f g : Nat → Nat) (hf : ∀ i, i < 4 → f i < 18446744073709551616) (hg : ∀ i, i < 4 → g i < 18446744073709551616) (w : World) :
    Calls Tryd.prog 73 #[.agg (A4 f), .agg (A4 g)] w fun e w' => (∃ o : Nat → Nat, e = .returned (.agg (A8 o)) ∧ (∀ i, i < 8 → o i < 18446744073709551616) ∧ vl o 8 = vl f 4 * vl g 4) ∧ Below w.heap.size w w' := by
  have hz := (zero_of_info zeroA8).1
  go_enter Tryd.func73, Tryd.ntmps73
  go_wp2_with fail
  have hK0 := ((((Kp.nil w).alloc (A4 f) 35).alloc (A4 g) 35).alloc (A8 fun _ => 0) 55).alloc (A8 fun _ => 0) 55
  rw [World.size_alloc, World.size_alloc, World.size_alloc] at hK0
  generalize (((w.alloc (.cells (A4 f) 35)).alloc (.cells (A4 g) 35)).alloc (.cells (A8 fun _ => 0) 55)).alloc (.cells (A8 fun _ => 0) 55) = W at *
  obtain ⟨bA, HA⟩ : ∃ bA, Hid (w.heap.size = bA) := ⟨_, rfl⟩
  obtain ⟨bB, HB⟩ : ∃ bB, Hid (bA + 1 = bB) := ⟨_, rfl⟩
  obtain ⟨bR, HR⟩ : ∃ bR, Hid (bB + 1 = bR) := ⟨_, rfl⟩
  obtain ⟨bO, HO⟩ : ∃ bO, Hid (bR + 1 = bO) := ⟨_, rfl⟩
  have hleR : w.heap.size ≤ bR := by have := HA.out; have := HB.out; have := HR.out; omega
  have hleO : w.heap.size ≤ bO := by have := HO.out; omega
  have nA : bA ≠ bO := by have := HB.out; have := HR.out; have := HO.out; omega
  have nB : bB ≠ bO := by have := HR.out; have := HO.out; omega
  have nR : bR ≠ bO := by have := HO.out; omega
  rw [HA.out, HB.out, HR.out, HO.out] at hK0 ⊢
  go_loopw [6] (fun ii wr => ∃ (i : Nat) (o : Nat → Nat), i ≤ 4 ∧ ii = .int .i64 (i : Int) ∧ (∀ j, j < 8 → o j < 18446744073709551616) ∧ (∀ j, i + 4 ≤ j → o j = 0) ∧ Hid (vl o 8 = vl f i * vl g 4) ∧ Kp [(bO, A8 o, 55), (bR, A8 fun _ => 0, 55), (bB, A4 g, 35), (bA, A4 f, 35)] w wr) (fun ii _ => 4 - (intOf ii).toNat)
  case atStart => exact ⟨0, fun _ => 0, by omega, rfl, fun _ _ => by show 0 < 18446744073709551616; decide, fun _ _ => rfl, start_out f g, hK0⟩
  case round =>
    obtain ⟨i, o, hi4, rfl, hoo, hoz, Ho, hKr⟩ := hrel
    have hi0 : (0 : Int) ≤ (i : Int) := by omega
    by_cases hil : i < 4
    · have hii : (i : Int) < 4 := by omega
      go_wp2_with fail
      go_loopw [8, 7] (fun kk cc wr => ∃ (k c : Nat) (o' : Nat → Nat), k ≤ 4 ∧ kk = .int .i64 (k : Int) ∧ cc = .int .u64 (c : Int) ∧ c < 18446744073709551616 ∧ (∀ j, j < 8 → o' j < 18446744073709551616) ∧ (∀ j, i + 4 ≤ j → o' j = 0) ∧ Hid (vl o' 8 + c * 18446744073709551616 ^ (i + k) = vl o 8 + f i * vl g k * 18446744073709551616 ^ i) ∧ Kp [(bO, A8 o', 55), (bR, A8 fun _ => 0, 55), (bB, A4 g, 35), (bA, A4 f, 35)] w wr) (fun kk _ _ => 4 - (intOf kk).toNat)
      case atStart => exact ⟨0, 0, o, by omega, rfl, rfl, by decide, hoo, hoz, start_in _ _ _ _ g, hKr⟩
      case round =>
        obtain ⟨k, c, o', hk4, rfl, rfl, hc, hoo', hoz', Ho', hKi⟩ := hrel
        have hk0 : (0 : Int) ≤ (k : Int) := by omega
        by_cases hkl : k < 4
        · have hkk : (k : Int) < 4 := by omega
          obtain ⟨lo, hi, hlo, Hp, hhi⟩ : ∃ lo hi, lo < 18446744073709551616 ∧ Hid (f i * g k = lo + 18446744073709551616 * hi) ∧ hi < 18446744073709551615 := by
            have := word_mul (f i) (g k) (hf i hil) (hg k hkl)
            exact ⟨f i * g k % 18446744073709551616, f i * g k / 18446744073709551616, Nat.mod_lt _ (by decide), by show _ = _; omega, by omega⟩
          go_upto_region 9 with fail
          refine wp_region_vals 63 (by kernel_rfl) (by kernel_rfl) (by rfl) (valM f g i k bA bB hi lo) (fun _ => Kp [(bO, A8 o', 55), (bR, A8 fun _ => 0, 55), (bB, A4 g, 35), (bA, A4 f, 35)] w) hKi.drew ?_ ?_
          · intro L ac wc i' o'' hF hLi ho hd K hK
            rcases i' with _ | _ | _ | _ | _ | _ | _ | _ | _ | _ | _ | _ | i'
            · have ho' := ho
              obtain rfl := Option.some.inj ho
              have f6 : ac.tmps.getD 6 undef = .int .i64 (i : Int) := slotv hF 0 hLi 6 (by kernel_rfl)
              refine step_do ho' (wanted_free rfl) ?_
              unfold Oper.wp
              go_simp
              exact hK _ _ (.inr rfl) hF.j
            · have ho' := ho
              obtain rfl := Option.some.inj ho
              have f2 : ac.tmps.getD 2 undef = .pointer (some ⟨bA, 0, none⟩) := slotv hF 1 hLi 2 (by kernel_rfl)
              have f21 : ac.tmps.getD 21 undef = .int .i64 (i : Int) := valv hF hd 0 rfl rfl (by kernel_rfl)
              refine step_do ho' (wanted_free rfl) ?_
              unfold Oper.wp
              go_simp
              exact hK _ _ (.inr rfl) hF.j
            · have ho' := ho
              obtain rfl := Option.some.inj ho
              have f22 : ac.tmps.getD 22 undef = .pointer (some ⟨bA, i, none⟩) := valv hF hd 1 rfl rfl (by kernel_rfl)
              refine step_do ho' (wanted_free rfl) ?_
              have cA := (hF.j.at bA (A4 f) 35 (by simp)).cell (A4_at f i hil)
              unfold Oper.wp
              go_simp
              exact hK _ _ (.inr rfl) hF.j
            · have ho' := ho
              obtain rfl := Option.some.inj ho
              have f8 : ac.tmps.getD 8 undef = .int .i64 (k : Int) := slotv hF 3 hLi 8 (by kernel_rfl)
              refine step_do ho' (wanted_free rfl) ?_
              unfold Oper.wp
              go_simp
              exact hK _ _ (.inr rfl) hF.j
            · have ho' := ho
              obtain rfl := Option.some.inj ho
              have f3 : ac.tmps.getD 3 undef = .pointer (some ⟨bB, 0, none⟩) := slotv hF 4 hLi 3 (by kernel_rfl)
              have f24 : ac.tmps.getD 24 undef = .int .i64 (k : Int) := valv hF hd 3 rfl rfl (by kernel_rfl)
              refine step_do ho' (wanted_free rfl) ?_
              unfold Oper.wp
              go_simp
              exact hK _ _ (.inr rfl) hF.j
            · have ho' := ho
              obtain rfl := Option.some.inj ho
              have f25 : ac.tmps.getD 25 undef = .pointer (some ⟨bB, k, none⟩) := valv hF hd 4 rfl rfl (by kernel_rfl)
              refine step_do ho' (wanted_free rfl) ?_
              have cB := (hF.j.at bB (A4 g) 35 (by simp)).cell (A4_at g k hkl)
              unfold Oper.wp
              go_simp
              exact hK _ _ (.inr rfl) hF.j
            · have ho' := ho
              obtain rfl := Option.some.inj ho
              have f23 : ac.tmps.getD 23 undef = .int .u64 (f i : Int) := valv hF hd 2 rfl rfl (by kernel_rfl)
              have f26 : ac.tmps.getD 26 undef = .int .u64 (g k : Int) := valv hF hd 5 rfl rfl (by kernel_rfl)
              refine step_do ho' (wanted_free rfl) ?_
              unfold Oper.wp
              go_simp
              refine (mul64_at (hf i hil) (hg k hkl) hlo Hp.out _).mono ?_
              rintro e w' ⟨rfl, rfl⟩
              exact hK _ _ (.inr rfl) hF.j
            · have ho' := ho
              obtain rfl := Option.some.inj ho
              have f27 : ac.tmps.getD 27 undef = .tuple #[.int .u64 (hi : Int), .int .u64 (lo : Int)] := valv hF hd 6 rfl rfl (by kernel_rfl)
              refine step_do ho' (wanted_free rfl) ?_
              unfold Oper.wp
              go_simp
              exact hK _ _ (.inr rfl) hF.j
            · have ho' := ho
              obtain rfl := Option.some.inj ho
              have f20 : ac.tmps.getD 20 undef = .tuple #[.int .u64 (hi : Int), .int .u64 (lo : Int)] := valv hF hd 7 rfl rfl (by kernel_rfl)
              refine step_do ho' (wanted_free rfl) ?_
              unfold Oper.wp
              go_simp
              exact hK _ _ (.inr rfl) hF.j
            · have ho' := ho
              obtain rfl := Option.some.inj ho
              have f20 : ac.tmps.getD 20 undef = .tuple #[.int .u64 (hi : Int), .int .u64 (lo : Int)] := valv hF hd 7 rfl rfl (by kernel_rfl)
              refine step_do ho' (wanted_free rfl) ?_
              unfold Oper.wp
              go_simp
              exact hK _ _ (.inr rfl) hF.j
            · have ho' := ho
              obtain rfl := Option.some.inj ho
              have f28 : ac.tmps.getD 28 undef = .int .u64 (hi : Int) := valv hF hd 8 rfl rfl (by kernel_rfl)
              refine step_do ho' (wanted_free rfl) ?_
              unfold Oper.wp
              go_simp
              exact hK _ _ (.inr rfl) hF.j
            · have ho' := ho
              obtain rfl := Option.some.inj ho
              have f29 : ac.tmps.getD 29 undef = .int .u64 (lo : Int) := valv hF hd 9 rfl rfl (by kernel_rfl)
              refine step_do ho' (wanted_free rfl) ?_
              unfold Oper.wp
              go_simp
              exact hK _ _ (.inr rfl) hF.j
            · cases ho
          · intro L wq hL hKq
            simp only [putAll, valM]
            have hik : i + k < 8 := by omega
            obtain ⟨lo1, c1, hr1, hl1, hc1, he1⟩ := add64_any lo (o' (i + k)) 0 hlo (hoo' (i + k) hik) (by omega)
            obtain ⟨lo2, c2, hr2, hl2, hc2, he2⟩ := add64_any lo1 c 0 hl1 hc (by omega)
            have hr1 : ∀ w, (callFunc 83 #[.int .u64 (lo : Int), .int .u64 (o' (i + k) : Int), .int .u64 0]).run Tryd.prog w = .ok (.value (.tuple #[.int .u64 (lo1 : Int), .int .u64 (c1 : Int)])) w := hr1
            have hr2 : ∀ w, (callFunc 83 #[.int .u64 (lo1 : Int), .int .u64 (c : Int), .int .u64 0]).run Tryd.prog w = .ok (.value (.tuple #[.int .u64 (lo2 : Int), .int .u64 (c2 : Int)])) w := hr2
            have hw1 : IntKind.u64.wrap ((hi : Int) + (c1 : Int)) = ((hi + c1 : Nat) : Int) := by
              rw [show (hi : Int) + (c1 : Int) = ((hi + c1 : Nat) : Int) by omega]; exact wrap_small _ (by omega)
            have Hsum : Hid (f i * g k + o' (i + k) + c = lo2 + 18446744073709551616 * (hi + c1 + c2)) := by
              show _ = _
              have := Hp.out
              omega
            have hh2 : hi + c1 + c2 < 18446744073709551616 := by
              have h1 := word_mul (f i) (g k) (hf i hil) (hg k hkl)
              have h2 := hoo' (i + k) hik
              have h3 := Hsum.out
              generalize f i * g k = PP at *
              omega
            have hw2 : IntKind.u64.wrap (((hi + c1 : Nat) : Int) + (c2 : Int)) = ((hi + c1 + c2 : Nat) : Int) := by
              rw [show ((hi + c1 : Nat) : Int) + (c2 : Int) = ((hi + c1 + c2 : Nat) : Int) by omega]; exact wrap_small _ hh2
            have Hst := show Hid _ from times_step hik Ho'.out Hsum.out
            have cO := (hKq.at bO (A8 o') 55 (by simp)).cell (A8_at o' (i + k) hik)
            have fO := (hKq.at bO (A8 o') 55 (by simp)).frozen (i + k)
            have hiki : (i : Int) + (k : Int) < 8 := by omega
            have hik0 : (0 : Int) ≤ (i : Int) + (k : Int) := by omega
            have hikt : ((i : Int) + (k : Int)).toNat = i + k := by omega
            clear he1 he2
            generalize hi + c1 + c2 = h2 at *
            generalize hi + c1 = h1 at *
            generalize o' (i + k) = x at cO hr1
            go_wp2_with (first | simp only [hr1] | simp only [hr2])
            refine ⟨⟨k + 1, h2, upd o' (i + k) lo2, by omega, by go_num, rfl, hh2, fun j hj => ?_, fun j hj => ?_, Hst.out, ?_⟩, by simp [intOf]; omega⟩
            · by_cases e : j = i + k
              · rw [e, upd_same]; exact hl2
              · rw [upd_other _ _ _ _ e]; exact hoo' j hj
            · rw [upd_other _ _ _ _ (by omega)]; exact hoz' j hj
            · have := Kp.setCell (i := i + k) (v := .int .u64 (lo2 : Int)) hKq (by simp; omega) hleO
              rw [A8_set o' (i + k) lo2 hik] at this
              exact this
        · have hkk : ¬ (k : Int) < 4 := by omega
          have hk4' : k = 4 := by omega
          have Hrow : Hid (vl (upd o' (i + 4) c) 8 = vl f (i + 1) * vl g 4) := by
            show _ = _
            have h1 := Ho'.out
            rw [hk4'] at h1
            exact times_row (by omega) (hoz' (i + 4) (by omega)) Ho.out h1
          clear hk4'
          have cO := (hKi.at bO (A8 o') 55 (by simp)).cell (A8_at o' (i + 4) (by omega))
          have fO := (hKi.at bO (A8 o') 55 (by simp)).frozen (i + 4)
          have hi4i : (i : Int) + 4 < 8 := by omega
          have hi40 : (0 : Int) ≤ (i : Int) + 4 := by omega
          have hi4t : ((i : Int) + 4).toNat = i + 4 := by omega
          go_wp2_with fail
          refine ⟨⟨i + 1, upd o' (i + 4) c, by omega, by go_num, fun j hj => ?_, fun j hj => ?_, Hrow.out, ?_⟩, by simp [intOf]; omega⟩
          · by_cases e : j = i + 4
            · rw [e, upd_same]; exact hc
            · rw [upd_other _ _ _ _ e]; exact hoo' j hj
          · rw [upd_other _ _ _ _ (by omega)]; exact hoz' j (by omega)
          · have := Kp.setCell (i := i + 4) (v := .int .u64 (c : Int)) hKi (by simp; omega) hleO
            rw [A8_set o' (i + 4) c (by omega)] at this
            exact this
    · have hii : ¬ (i : Int) < 4 := by omega
      have hi4' : i = 4 := by omega
      have Hfin : Hid (vl o 8 = vl f 4 * vl g 4) := by
        show _ = _
        have := Ho.out
        rwa [hi4'] at this
      clear hi4'
      go_upto_region 16 with fail
      go_wp2_with (first
        | refine wpList_load_own (by rfl) 55 (.tmp 5) (by rfl) bO (by rfl) (A8 o) _ (hKr.at bO (A8 o) 55 (by simp)) Tryd.underlying55 (by rfl) infoA8 ?_
        | refine wpList_store_own (by rfl) 55 (.tmp 4) (.tmp 62) (by rfl) bR 0 (A8 o) (by rfl) (by rfl) (hKr.at bR (A8 fun _ => 0) 55 (by simp)) (Nat.le_refl _) infoA8 (A8_one o) (by rfl) ?_)
      refine bodyPost_ret (results_own Tryd.results73 _ _ bR (A8 o) _ (by rfl) (own_setCells (hKr.at bR (A8 fun _ => 0) 55 (by simp)) rfl) Tryd.underlying55 rfl infoA8) rfl ⟨⟨o, rfl, hoo, Hfin.out⟩, ?_⟩
      exact Below.setCells _ _ _ _ hleR hKr.2
end Go.Proofs.YtfkcphbbabaefaaDoor
