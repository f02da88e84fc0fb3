/- The program's functions Check, Mod, Add, Sub, Mul: they are what the contracts say. -/
import Derived.Test.YtgibllaifnnfkaaDoorFB
import Derived.Test.YtgibllaifnnfkaaDoorRG
namespace Go.Proofs.YtgibllaifnnfkaaDoor
open Go.RowKit

set_option maxRecDepth 100000 in
set_option maxHeartbeats 4000000 in
theorem pmod_any (a : Nat) (ha : a < R256) (w : World) (hT : TP w) : Calls Tryd.prog 69 #[.agg (B32 (bdig a))] w fun x w' => x = .returned (.agg (B32 (bdig (a % pp)))) ∧ Below w.heap.size w w' := by
  have hz := (zero_of_info zeroB32).1
  go_enter Tryd.func69, Tryd.ntmps69
  go_upto_region 1 with fail
  have hK := ((Kp.nil w).alloc (B32 (bdig a)) 22).alloc (B32 fun _ => 0) 22
  rw [World.size_alloc] at hK
  generalize (w.alloc (.cells (B32 (bdig a)) 22)).alloc (.cells (B32 fun _ => 0) 22) = W at *
  obtain ⟨bA, H1⟩ : ∃ bA, Hid (w.heap.size = bA) := ⟨_, rfl⟩
  obtain ⟨bR, H2⟩ : ∃ bR, Hid (bA + 1 = bR) := ⟨_, rfl⟩
  have hleR : w.heap.size ≤ bR := by have := H1.out; have := H2.out; omega
  rw [H1.out, H2.out] at hK ⊢
  go_wp2_with (refine wpList_load_own (by rfl) 22 (.tmp 1) (by rfl) bA (by rfl) (B32 (bdig a)) _ hK.h2 Tryd.underlying22 (by rfl) (B32_info _) ?_)
  refine (read_any a W).mono ?_
  rintro r W1 ⟨rfl, bw⟩
  have hK := hK.below bw
  go_wp2_with fail
  refine (write_any a ha W1 (hT.kp hK)).mono ?_
  rintro r W2 ⟨rfl, bw⟩
  have hK := hK.below bw
  go_wp2_with (refine wpList_store_own (by rfl) 22 (.tmp 2) (.tmp 5) (by rfl) bR 0 (B32 (bdig (a % pp))) (by rfl) (by rfl) hK.h1 (B32_le _ _) (B32_info _) (B32_one _) (by rfl) ?_)
  exact bodyPost_ret (results_own Tryd.results69 _ _ bR (B32 (bdig (a % pp))) _ (by rfl) (own_setCells hK.h1 (B32_sizes _ _)) Tryd.underlying22 rfl (B32_info _)) rfl ⟨rfl, Below.setCells _ _ _ _ hleR hK.2⟩

set_option maxRecDepth 100000 in
set_option maxHeartbeats 4000000 in
theorem pcheck_any (a : Nat) (ha : a < R256) (w : World) (hT : TP w) : Calls Tryd.prog 53 #[.agg (B32 (bdig a))] w fun x w' => x = .returned (.bool (decide (a < pp))) ∧ Below w.heap.size w w' := by
  have hz := (zero_of_info zeroB32).1
  have Hd : Hid (decide (a % pp = a) = decide (a < pp)) := by
    show _ = _
    rw [decide_eq_decide]
    exact ⟨fun h => h ▸ Nat.mod_lt _ pp_pos, fun h => Nat.mod_eq_of_lt h⟩
  go_enter Tryd.func53, Tryd.ntmps53
  go_upto_region 1 with fail
  have hK := (Kp.nil w).alloc (B32 (bdig a)) 22
  generalize w.alloc (.cells (B32 (bdig a)) 22) = W at *
  obtain ⟨bA, H1⟩ : ∃ bA, Hid (w.heap.size = bA) := ⟨_, rfl⟩
  rw [H1.out] at hK ⊢
  refine wp_region_lv 7 (fun _ => [(bA, B32 (bdig a), 22)]) [.v (.agg (B32 (bdig a))), .v (.agg (B32 (bdig (a % pp)))), .v (.agg (B32 (bdig a))), .v (.bool (decide (a % pp = a))), .v (.bool (decide (a % pp = a)))] hK (by kernel_rfl) (by kernel_rfl) (by kernel_rfl) (by rfl) ?_ ?_
  · exact .c (.ld bA (fun _ => .head _) Tryd.underlying22 rfl (B32_info _)) <| .c (.ca fun _ _ hkx => pmod_any a ha _ (hT.kp hkx)) <| .c (.ld bA (fun _ => .head _) Tryd.underlying22 rfl (B32_info _)) <| .c (.p2 4 (.agg (B32 (bdig (a % pp)))) 5 (.agg (B32 (bdig a))) (h := by intro ac wc f4 f5; have q0 := getq f4; have q1 := getq f5; have he := B32_eq (a % pp) a lt_of_mod ha; go_simp)) <| .c (.p1 6 (.bool (decide (a % pp = a)))) .nil
  · intro _ wq hJ _
    have hKq := hJ.1
    simp only [putL, Lv.val, Act.put, List.setIfInBounds_toArray, List.set_cons_succ, List.set_cons_zero]
    go_wp2_with fail
    go_ret
    exact ⟨by rw [← Hd.out]; rfl, hKq.2⟩

set_option maxRecDepth 100000 in
set_option maxHeartbeats 8000000 in
theorem padd_any (a b : Nat) (ha : a < R256) (hb : b < R256) (w : World) (hT : TP w) : Calls Tryd.prog 56 #[.agg (B32 (bdig a)), .agg (B32 (bdig b))] w fun x w' => x = .returned (.agg (B32 (bdig ((a + b) % pp)))) ∧ Below w.heap.size w w' := by
  have hz := (zero_of_info zeroB32).1
  have hs : a % pp + b % pp < R256 := by
    have h1 := Nat.mod_lt a pp_pos
    have h2 := Nat.mod_lt b pp_pos
    generalize a % pp = x at *
    generalize b % pp = y at *
    unfold pp at h1 h2
    unfold R256
    omega
  have Hfin : Hid ((a % pp + b % pp) % pp = (a + b) % pp) := (Nat.add_mod a b pp).symm
  go_enter Tryd.func56, Tryd.ntmps56
  go_upto_region 1 with fail
  have hK := (((Kp.nil w).alloc (B32 (bdig a)) 22).alloc (B32 (bdig b)) 22).alloc (B32 fun _ => 0) 22
  rw [World.size_alloc, World.size_alloc] at hK
  generalize ((w.alloc (.cells (B32 (bdig a)) 22)).alloc (.cells (B32 (bdig b)) 22)).alloc (.cells (B32 fun _ => 0) 22) = W at *
  obtain ⟨bA, H1⟩ : ∃ bA, Hid (w.heap.size = bA) := ⟨_, rfl⟩
  obtain ⟨bB, H2⟩ : ∃ bB, Hid (bA + 1 = bB) := ⟨_, rfl⟩
  obtain ⟨bR, H3⟩ : ∃ bR, Hid (bB + 1 = bR) := ⟨_, rfl⟩
  have hleR : w.heap.size ≤ bR := by have := H1.out; have := H2.out; have := H3.out; omega
  have nA : bA ≠ bR := by have := H2.out; have := H3.out; omega
  have nB : bB ≠ bR := by have := H3.out; omega
  rw [H1.out, H2.out, H3.out] at hK ⊢
  refine wp_region_lv 13 (fun L => [(bR, if L 8 = true then B32 (bdig ((a % pp + b % pp) % pp)) else B32 fun _ => 0, 22), (bB, B32 (bdig b), 22), (bA, B32 (bdig a), 22)]) [.v (.agg (B32 (bdig a))), .v (.agg (numA a)), .v (.agg (numA (a % pp))), .v (.agg (B32 (bdig b))), .v (.agg (numA b)), .v (.agg (numA (b % pp))), .v (.agg (numA (a % pp + b % pp))), .v (.agg (B32 (bdig ((a % pp + b % pp) % pp)))), .o] hK (by kernel_rfl) (by kernel_rfl) (by kernel_rfl) (by rfl) ?_ ?_
  · exact .c (.ld bA (fun _ => .tail _ (.tail _ (.head _))) Tryd.underlying22 rfl (B32_info _)) <| .c (.ca fun _ _ _ => read_any a _) <| .c (.ca fun _ _ hkx => least_any a ha _ (hT.kp hkx)) <| .c (.ld bB (fun _ => .tail _ (.head _)) Tryd.underlying22 rfl (B32_info _)) <| .c (.ca fun _ _ _ => read_any b _) <| .c (.ca fun _ _ hkx => least_any b hb _ (hT.kp hkx)) <| .c (.ca fun _ _ _ => fplus_any _ _ lt_of_mod lt_of_mod hs _) <| .c (.ca fun _ _ hkx => write_any _ hs _ (hT.kp hkx)) <| .c (.sk bR (.hr (fun _ => rfl) (fun _ => rfl) (fun _ => by simp; omega)) hleR (B32_info _) (B32_one _)) .nil
  · intro _ wq hJ _
    have hKq : Kp [(bR, B32 (bdig ((a % pp + b % pp) % pp)), 22), (bB, B32 (bdig b), 22), (bA, B32 (bdig a), 22)] w wq := hJ.1
    simp only [putL, Lv.val, Act.put, List.setIfInBounds_toArray, List.set_cons_succ, List.set_cons_zero]
    go_wp2_with fail
    exact bodyPost_ret (results_own Tryd.results56 _ _ bR (B32 (bdig ((a % pp + b % pp) % pp))) _ (by rfl) hKq.h1 Tryd.underlying22 rfl (B32_info _)) rfl ⟨by rw [Hfin.out], hKq.2⟩

set_option maxRecDepth 100000 in
set_option maxHeartbeats 8000000 in
theorem psub_any (a b : Nat) (ha : a < R256) (hb : b < R256) (w : World) (hT : TP w) : Calls Tryd.prog 57 #[.agg (B32 (bdig a)), .agg (B32 (bdig b))] w fun x w' => x = .returned (.agg (B32 (bdig ((a % pp + pp - b % pp) % pp)))) ∧ Below w.heap.size w w' := by
  have hz := (zero_of_info zeroB32).1
  have hq : pp - b % pp < R256 := Nat.lt_of_le_of_lt (Nat.sub_le _ _) (by decide)
  have hs : a % pp + (pp - b % pp) < R256 := by
    have h1 := Nat.mod_lt a pp_pos
    generalize a % pp = x at *
    generalize b % pp = y at *
    unfold pp at h1 ⊢
    unfold R256
    omega
  have Hfin : Hid ((a % pp + (pp - b % pp)) % pp = (a % pp + pp - b % pp) % pp) := by
    show _ = _
    rw [Nat.add_sub_assoc (Nat.le_of_lt (Nat.mod_lt b pp_pos))]
  go_enter Tryd.func57, Tryd.ntmps57
  go_upto_region 1 with fail
  have hK := (((Kp.nil w).alloc (B32 (bdig a)) 22).alloc (B32 (bdig b)) 22).alloc (B32 fun _ => 0) 22
  rw [World.size_alloc, World.size_alloc] at hK
  generalize ((w.alloc (.cells (B32 (bdig a)) 22)).alloc (.cells (B32 (bdig b)) 22)).alloc (.cells (B32 fun _ => 0) 22) = W at *
  obtain ⟨bA, H1⟩ : ∃ bA, Hid (w.heap.size = bA) := ⟨_, rfl⟩
  obtain ⟨bB, H2⟩ : ∃ bB, Hid (bA + 1 = bB) := ⟨_, rfl⟩
  obtain ⟨bR, H3⟩ : ∃ bR, Hid (bB + 1 = bR) := ⟨_, rfl⟩
  have hleR : w.heap.size ≤ bR := by have := H1.out; have := H2.out; have := H3.out; omega
  have nA : bA ≠ bR := by have := H2.out; have := H3.out; omega
  have nB : bB ≠ bR := by have := H3.out; omega
  rw [H1.out, H2.out, H3.out] at hK ⊢
  refine wp_region_lv 13 (fun L => [(bR, if L 8 = true then B32 (bdig ((a % pp + (pp - b % pp)) % pp)) else B32 fun _ => 0, 22), (bB, B32 (bdig b), 22), (bA, B32 (bdig a), 22)]) [.v (.agg (B32 (bdig a))), .v (.agg (numA a)), .v (.agg (numA (a % pp))), .v (.agg (B32 (bdig b))), .v (.agg (numA b)), .v (.agg (numA (pp - b % pp))), .v (.agg (numA (a % pp + (pp - b % pp)))), .v (.agg (B32 (bdig ((a % pp + (pp - b % pp)) % pp)))), .o] hK (by kernel_rfl) (by kernel_rfl) (by kernel_rfl) (by rfl) ?_ ?_
  · exact .c (.ld bA (fun _ => .tail _ (.tail _ (.head _))) Tryd.underlying22 rfl (B32_info _)) <| .c (.ca fun _ _ _ => read_any a _) <| .c (.ca fun _ _ hkx => least_any a ha _ (hT.kp hkx)) <| .c (.ld bB (fun _ => .tail _ (.head _)) Tryd.underlying22 rfl (B32_info _)) <| .c (.ca fun _ _ _ => read_any b _) <| .c (.ca fun _ _ hkx => opp_any b hb _ (hT.kp hkx)) <| .c (.ca fun _ _ _ => fplus_any _ _ lt_of_mod hq hs _) <| .c (.ca fun _ _ hkx => write_any _ hs _ (hT.kp hkx)) <| .c (.sk bR (.hr (fun _ => rfl) (fun _ => rfl) (fun _ => by simp; omega)) hleR (B32_info _) (B32_one _)) .nil
  · intro _ wq hJ _
    have hKq : Kp [(bR, B32 (bdig ((a % pp + (pp - b % pp)) % pp)), 22), (bB, B32 (bdig b), 22), (bA, B32 (bdig a), 22)] w wq := hJ.1
    simp only [putL, Lv.val, Act.put, List.setIfInBounds_toArray, List.set_cons_succ, List.set_cons_zero]
    go_wp2_with fail
    exact bodyPost_ret (results_own Tryd.results57 _ _ bR (B32 (bdig ((a % pp + (pp - b % pp)) % pp))) _ (by rfl) hKq.h1 Tryd.underlying22 rfl (B32_info _)) rfl ⟨by rw [Hfin.out], hKq.2⟩

set_option maxRecDepth 100000 in
set_option maxHeartbeats 8000000 in
theorem pmul_any (a b : Nat) (ha : a < R256) (hb : b < R256) (w : World) (hT : TP w) : Calls Tryd.prog 46 #[.agg (B32 (bdig a)), .agg (B32 (bdig b))] w fun x w' => x = .returned (.agg (B32 (bdig (a * b % pp)))) ∧ Below w.heap.size w w' := by
  have hz := (zero_of_info zeroB32).1
  have Hfin : Hid (tmul a b % pp = a * b % pp) := tmul_mod a b
  go_enter Tryd.func46, Tryd.ntmps46
  go_upto_region 1 with fail
  have hK := (((Kp.nil w).alloc (B32 (bdig a)) 22).alloc (B32 (bdig b)) 22).alloc (B32 fun _ => 0) 22
  rw [World.size_alloc, World.size_alloc] at hK
  generalize ((w.alloc (.cells (B32 (bdig a)) 22)).alloc (.cells (B32 (bdig b)) 22)).alloc (.cells (B32 fun _ => 0) 22) = W at *
  obtain ⟨bA, H1⟩ : ∃ bA, Hid (w.heap.size = bA) := ⟨_, rfl⟩
  obtain ⟨bB, H2⟩ : ∃ bB, Hid (bA + 1 = bB) := ⟨_, rfl⟩
  obtain ⟨bR, H3⟩ : ∃ bR, Hid (bB + 1 = bR) := ⟨_, rfl⟩
  have hleR : w.heap.size ≤ bR := by have := H1.out; have := H2.out; have := H3.out; omega
  have nA : bA ≠ bR := by have := H2.out; have := H3.out; omega
  have nB : bB ≠ bR := by have := H3.out; omega
  rw [H1.out, H2.out, H3.out] at hK ⊢
  refine wp_region_lv 11 (fun L => [(bR, if L 6 = true then B32 (bdig (tmul a b % pp)) else B32 fun _ => 0, 22), (bB, B32 (bdig b), 22), (bA, B32 (bdig a), 22)]) [.v (.agg (B32 (bdig a))), .v (.agg (numA a)), .v (.agg (B32 (bdig b))), .v (.agg (numA b)), .v (.agg (numA (tmul a b))), .v (.agg (B32 (bdig (tmul a b % pp)))), .o] hK (by kernel_rfl) (by kernel_rfl) (by kernel_rfl) (by rfl) ?_ ?_
  · exact .c (.ld bA (fun _ => .tail _ (.tail _ (.head _))) Tryd.underlying22 rfl (B32_info _)) <| .c (.ca fun _ _ _ => read_any a _) <| .c (.ld bB (fun _ => .tail _ (.head _)) Tryd.underlying22 rfl (B32_info _)) <| .c (.ca fun _ _ _ => read_any b _) <| .c (.ca fun _ _ _ => ptimes_any a b ha hb _) <| .c (.ca fun _ _ hkx => write_any _ (tmul_lt ha hb) _ (hT.kp hkx)) <| .c (.sk bR (.hr (fun _ => rfl) (fun _ => rfl) (fun _ => by simp; omega)) hleR (B32_info _) (B32_one _)) .nil
  · intro _ wq hJ _
    have hKq : Kp [(bR, B32 (bdig (tmul a b % pp)), 22), (bB, B32 (bdig b), 22), (bA, B32 (bdig a), 22)] w wq := hJ.1
    simp only [putL, Lv.val, Act.put, List.setIfInBounds_toArray, List.set_cons_succ, List.set_cons_zero]
    go_wp2_with fail
    exact bodyPost_ret (results_own Tryd.results46 _ _ bR (B32 (bdig (tmul a b % pp))) _ (by rfl) hKq.h1 Tryd.underlying22 rfl (B32_info _)) rfl ⟨by rw [Hfin.out], hKq.2⟩
theorem fld : Fld TP where
  keep := fun _ _ h hB => h.keep hB
  check := pcheck_any
  mod := pmod_any
  add := padd_any
  sub := psub_any
  mul := pmul_any
end Go.Proofs.YtgibllaifnnfkaaDoor
