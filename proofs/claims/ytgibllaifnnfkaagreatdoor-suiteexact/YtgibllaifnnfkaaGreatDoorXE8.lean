/- Of the texts E6, E7, E8: what the card of this claim reaches. -/
import Derived.Test.YtgibllaifnnfkaaGreatDoorXE7
import Derived.Test.YtgibllaifnnfkaaGreatDoorXE4
import Derived.Test.YtgibllaifnnfkaaGreatDoorXE3
namespace Go.Proofs.YtgibllaifnnfkaaGreatDoor
open Go.RowKit
theorem add_small {a b s : Nat} (ha : a < pp) (hb : b < pp + 1) (hs : a + b = s) (w : World) :
    Calls Tryz.prog 102 #[.agg (numA a), .agg (numA b)] w fun e w' => e = .returned (.tuple #[.agg (numA s), .int .u64 0]) ∧ Below w.heap.size w w' := by
  have h2 : 2 * pp < R256 := by decide
  refine (add_any a b (by omega) (by omega) w).mono ?_
  rintro e w' ⟨⟨d, c, rfl, hd, hc, he⟩, hB⟩
  have : c = 0 ∨ c = 1 := by omega
  rcases this with rfl | rfl
  · obtain rfl : d = s := by omega
    exact ⟨rfl, hB⟩
  · omega
set_option maxRecDepth 100000 in
set_option maxHeartbeats 4000000 in
theorem fadd_any (a b : Nat) (ha : a < R256) (hb : b < R256) (w : World) : Calls Tryz.prog 72 #[.agg (numA a), .agg (numA b)] w fun e w' => e = .returned (.agg (numA ((a + b) % pp))) ∧ Below w.heap.size w w' := by
  have hz := (zero_of_info zeroNum).1
  have hs1 := Nat.mod_lt a pp_pos
  have hs2 : b % pp < pp + 1 := Nat.lt_succ_of_lt (Nat.mod_lt b pp_pos)
  obtain ⟨s, Hs⟩ : ∃ s, Hid (a % pp + b % pp = s) := ⟨_, rfl⟩
  have hsR : s < R256 := by
    have h2 : 2 * pp < R256 := by decide
    have := Hs.out
    omega
  obtain ⟨r, Hr⟩ : ∃ r, Hid ((a + b) % pp = r) := ⟨_, rfl⟩
  have Hend : Hid (s % pp = r) := by show _ = _; rw [← Hr.out, ← Hs.out, ← Nat.add_mod]
  rw [Hr.out]
  clear Hr
  go_enter Tryz.func72, Tryz.ntmps72
  go_upto_region 1 with fail
  have hK0 := (((Kp.nil w).alloc (numA a) 54).alloc (numA b) 54).alloc (numA 0) 54
  rw [World.size_alloc, World.size_alloc] at hK0
  rw [← zero_num]
  generalize ((w.alloc (.cells (numA a) 54)).alloc (.cells (numA b) 54)).alloc (.cells (numA 0) 54) = W at *
  obtain ⟨bA, HA⟩ : ∃ bA, Hid (w.heap.size = bA) := ⟨_, rfl⟩
  obtain ⟨bB, HB⟩ : ∃ bB, Hid (bA + 1 = bB) := ⟨_, rfl⟩
  obtain ⟨bR, HR⟩ : ∃ bR, Hid (bB + 1 = bR) := ⟨_, rfl⟩
  have hle : w.heap.size ≤ bR := by have := HA.out; have := HB.out; have := HR.out; omega
  rw [HA.out, HB.out, HR.out] at hK0 ⊢
  refine wp_region_lv 18 (fun _ => [(bR, numA 0, 54), (bB, numA b, 54), (bA, numA a, 54)]) [.v (.agg (numA a)), .v (.agg (numA (a % pp))), .v (.agg (numA b)), .v (.agg (numA (b % pp))), .v (.tuple #[.agg (numA s), .int .u64 0]), .v (.tuple #[.agg (numA s), .int .u64 0]), .v (.agg (numA s)), .v (.int .u64 0), .mk (numA 0) (numA s) 54 9, .o, .v (.int .u64 0)] hK0 (by kernel_rfl) (by kernel_rfl) (by kernel_rfl) (by rfl) ?_ ?_
  · exact .c (.ld bA (fun _ => .tail _ (.tail _ (.head _))) Tryz.underlying54 rfl (numA_info a)) <| .c (.ca fun _ _ _ => mod_any a ha _) <| .c (.ld bB (fun _ => .tail _ (.head _)) Tryz.underlying54 rfl (numA_info b)) <| .c (.ca fun _ _ _ => mod_any b hb _) <| .c (.ca fun _ _ _ => add_small hs1 hs2 Hs.out _) <| .c (.p1 12 (.tuple #[.agg (numA s), .int .u64 0])) <| .c (.p1 7 (.tuple #[.agg (numA s), .int .u64 0])) <| .c (.p1 7 (.tuple #[.agg (numA s), .int .u64 0])) <| .c (.al hz) <| .c (.st 8 (numA_info s) (numA_one s)) <| .c (.p1 14 (.int .u64 0)) .nil
  · intro vs wq hJ hf
    obtain ⟨g, hg⟩ := hf 8 _ _ rfl rfl
    obtain ⟨hgl, hgn, hog⟩ := hJ.got 8 hg
    have hKq := hJ.1.cons hog
    simp only [putL, Lv.val, Nat.zero_add, Nat.reduceAdd, hg, Act.put, List.setIfInBounds_toArray, List.set_cons_succ, List.set_cons_zero]
    go_upto_region 3 with fail
    go_wp2_with (refine wpList_load_own (by rfl) 54 (.tmp 5) (by rfl) g (by rfl) (numA s) _ (hKq.at g (numA s) 54 (by simp)) Tryz.underlying54 (by rfl) (numA_info s) ?_)
    refine (mod_any s hsR wq).mono ?_
    rintro e w2 ⟨rfl, hB2⟩
    have hK2 := hKq.below hB2
    rw [Hend.out]
    go_wp2_with (refine wpList_store_own (by rfl) 54 (.tmp 4) (.tmp 17) (by rfl) bR 0 (numA r) (by rfl) (by rfl) (hK2.at bR (numA 0) 54 (by simp)) (Nat.le_refl _) (numA_info r) (numA_one r) (by rfl) ?_)
    refine bodyPost_ret (results_own Tryz.results72 _ _ bR (numA r) _ (by rfl) (own_setCells (hK2.at bR (numA 0) 54 (by simp)) rfl) Tryz.underlying54 rfl (numA_info r)) rfl ⟨rfl, ?_⟩
    exact Below.setCells _ _ _ _ hle hK2.2
set_option maxRecDepth 100000 in
set_option maxHeartbeats 4000000 in
theorem fsub_any (a b : Nat) (ha : a < R256) (hb : b < R256) (w : World) : Calls Tryz.prog 70 #[.agg (numA a), .agg (numA b)] w fun e w' => e = .returned (.agg (numA ((a % pp + pp - b % pp) % pp))) ∧ Below w.heap.size w w' := by
  have hz := (zero_of_info zeroNum).1
  have hs1 := Nat.mod_lt a pp_pos
  have hs2 := Nat.mod_lt b pp_pos
  obtain ⟨s, Hs⟩ : ∃ s, Hid (a % pp + pp = s) := ⟨_, rfl⟩
  obtain ⟨y, Hy⟩ : ∃ y, Hid (s = y + b % pp) := ⟨s - b % pp, by show _ = _; have := Hs.out; omega⟩
  have h2p : 2 * pp < R256 := by decide
  have hsR : s < R256 := by have := Hs.out; omega
  have hs2R : b % pp < R256 := by omega
  have hyR : y < R256 := by have := Hy.out; omega
  obtain ⟨r, Hr⟩ : ∃ r, Hid ((a % pp + pp - b % pp) % pp = r) := ⟨_, rfl⟩
  have Hend : Hid (y % pp = r) := by show _ = _; rw [← Hr.out, Hs.out, Hy.out, Nat.add_sub_cancel]
  rw [Hr.out]
  clear Hr
  go_enter Tryz.func70, Tryz.ntmps70
  go_upto_region 1 with fail
  have hK0 := (((Kp.nil w).alloc (numA a) 54).alloc (numA b) 54).alloc (numA 0) 54
  rw [World.size_alloc, World.size_alloc] at hK0
  rw [← zero_num]
  generalize ((w.alloc (.cells (numA a) 54)).alloc (.cells (numA b) 54)).alloc (.cells (numA 0) 54) = W at *
  obtain ⟨bA, HA⟩ : ∃ bA, Hid (w.heap.size = bA) := ⟨_, rfl⟩
  obtain ⟨bB, HB⟩ : ∃ bB, Hid (bA + 1 = bB) := ⟨_, rfl⟩
  obtain ⟨bR, HR⟩ : ∃ bR, Hid (bB + 1 = bR) := ⟨_, rfl⟩
  have hle : w.heap.size ≤ bR := by have := HA.out; have := HB.out; have := HR.out; omega
  rw [HA.out, HB.out, HR.out] at hK0 ⊢
  go_wp2_with (refine wpList_load_own (by rfl) 54 (.tmp 2) (by rfl) bA (by rfl) (numA a) _ (hK0.at bA (numA a) 54 (by simp)) Tryz.underlying54 (by rfl) (numA_info a) ?_)
  refine (mod_any a ha W).mono ?_
  rintro e w1 ⟨rfl, hB1⟩
  have hK1 := hK0.below hB1
  go_wp2_with fail
  refine (P_any w1).mono ?_
  rintro e w2 ⟨rfl, hB2⟩
  have hK2 := hK1.below hB2
  go_wp2_with fail
  refine (add_small hs1 (Nat.lt_succ_self pp) Hs.out w2).mono ?_
  rintro e w3 ⟨rfl, hB3⟩
  have hK3 := (hK2.below hB3).alloc (numA s) 54
  have hne : ∀ p ∈ [(bR, numA 0, 54), (bB, numA b, 54), (bA, numA a, 54)], p.1 ≠ w3.heap.size := fun p hp => Nat.ne_of_lt ((hK2.below hB3).1 p hp).lt
  have hle5 := (hK2.below hB3).2.size
  clear hK2 hK1 hK0
  go_wp2_with (refine wpList_store_new (by rfl) 54 (.tmp 5) (.tmp 12) (by rfl) _ (numA s) (by rfl) (by rfl) (numA_info s) (by rfl) (numA_one s) (by rfl) ?_)
  generalize w3.alloc (.cells (numA s) 54) = W3 at *
  generalize w3.heap.size = b5 at *
  have n1 := hne (bR, numA 0, 54) (by simp)
  have n2 := hne (bB, numA b, 54) (by simp)
  have n3 := hne (bA, numA a, 54) (by simp)
  simp only at n1 n2 n3
  refine wp_region_lv 23 (fun L => [(b5, if L 7 = true then numA y else numA s, 54), (bR, numA 0, 54), (bB, numA b, 54), (bA, numA a, 54)]) [.v (.agg (numA s)), .v (.agg (numA b)), .v (.agg (numA (b % pp))), .v (.tuple #[.agg (numA y), .int .u64 0]), .v (.tuple #[.agg (numA y), .int .u64 0]), .v (.agg (numA y)), .v (.int .u64 0), .o] hK3 (by kernel_rfl) (by kernel_rfl) (by kernel_rfl) (by rfl) ?_ ?_
  · exact .c (.lq b5 7 false (fun L h => by rw [h]; exact .head _) Tryz.underlying54 rfl (numA_info s)) <| .c (.ld bB (fun _ => .tail _ (.tail _ (.head _))) Tryz.underlying54 rfl (numA_info b)) <| .c (.ca fun _ _ _ => mod_any b hb _) <| .c (.ca fun _ _ _ => sub_big hsR hs2R Hy.out _) <| .c (.p1 18 (.tuple #[.agg (numA y), .int .u64 0])) <| .c (.p1 14 (.tuple #[.agg (numA y), .int .u64 0])) <| .c (.p1 14 (.tuple #[.agg (numA y), .int .u64 0])) <| .c (.sk b5 (.hr (fun _ => rfl) (fun _ => rfl) (fun _ => by simp; omega)) (by omega) (numA_info y) (numA_one y)) .nil
  · intro _ wq hJ _
    have hKq : Kp [(b5, numA y, 54), (bR, numA 0, 54), (bB, numA b, 54), (bA, numA a, 54)] w wq := hJ.1
    simp only [putL, Lv.val, Act.put, List.setIfInBounds_toArray, List.set_cons_succ, List.set_cons_zero]
    go_upto_region 3 with fail
    go_wp2_with (refine wpList_load_own (by rfl) 54 (.tmp 5) (by rfl) b5 (by rfl) (numA y) _ (hKq.at b5 (numA y) 54 (by simp)) Tryz.underlying54 (by rfl) (numA_info y) ?_)
    refine (mod_any y hyR wq).mono ?_
    rintro e w2 ⟨rfl, hB2⟩
    have hK2 := hKq.below hB2
    rw [Hend.out]
    go_wp2_with (refine wpList_store_own (by rfl) 54 (.tmp 4) (.tmp 22) (by rfl) bR 0 (numA r) (by rfl) (by rfl) (hK2.at bR (numA 0) 54 (by simp)) (Nat.le_refl _) (numA_info r) (numA_one r) (by rfl) ?_)
    refine bodyPost_ret (results_own Tryz.results70 _ _ bR (numA r) _ (by rfl) (own_setCells (hK2.at bR (numA 0) 54 (by simp)) rfl) Tryz.underlying54 rfl (numA_info r)) rfl ⟨rfl, ?_⟩
    exact Below.setCells _ _ _ _ hle hK2.2
end Go.Proofs.YtgibllaifnnfkaaGreatDoor
namespace Go.Proofs.YtgibllaifnnfkaaGreatDoor
open Go.RowKit
theorem mul64_at {x y h l : Nat} (hx : x < 18446744073709551616) (hy : y < 18446744073709551616) (hl : l < 18446744073709551616) (e : x * y = l + 18446744073709551616 * h) (w : World) :
    Calls Tryz.prog 95 #[.int .u64 (x : Int), .int .u64 (y : Int)] w fun e w' => e = .returned (.tuple #[.int .u64 (h : Int), .int .u64 (l : Int)]) ∧ w' = w := by
  refine (mul64_any x y hx hy w).mono ?_
  rintro e w' ⟨⟨h', l', rfl, hh, hl', he⟩, rfl⟩
  obtain rfl : h' = h := by omega
  obtain rfl : l' = l := by omega
  exact ⟨rfl, rfl⟩
theorem zeroA8 : (Tryz.prog.info? 80).map (fun i => (i.zero, i.size)) = some (some (.agg (A8 fun _ => 0)), 8) := by kernel_rfl
set_option maxRecDepth 100000 in
set_option maxHeartbeats 8000000 in
theorem times_dig (f g : Nat → Nat) (hf : ∀ i, i < 4 → f i < 18446744073709551616) (hg : ∀ i, i < 4 → g i < 18446744073709551616) (w : World) :
    Calls Tryz.prog 84 #[.agg (A4 f), .agg (A4 g)] w fun e w' => (∃ o : Nat → Nat, e = .returned (.agg (A8 o)) ∧ (∀ i, i < 8 → o i < 18446744073709551616) ∧ vl o 8 = vl f 4 * vl g 4) ∧ Below w.heap.size w w' := by
  have hz := (zero_of_info zeroA8).1
  go_enter Tryz.func84, Tryz.ntmps84
  go_wp2_with fail
  have hK0 := ((((Kp.nil w).alloc (A4 f) 54).alloc (A4 g) 54).alloc (A8 fun _ => 0) 80).alloc (A8 fun _ => 0) 80
  rw [World.size_alloc, World.size_alloc, World.size_alloc] at hK0
  generalize (((w.alloc (.cells (A4 f) 54)).alloc (.cells (A4 g) 54)).alloc (.cells (A8 fun _ => 0) 80)).alloc (.cells (A8 fun _ => 0) 80) = W at *
  obtain ⟨bA, HA⟩ : ∃ bA, Hid (w.heap.size = bA) := ⟨_, rfl⟩
  obtain ⟨bB, HB⟩ : ∃ bB, Hid (bA + 1 = bB) := ⟨_, rfl⟩
  obtain ⟨bR, HR⟩ : ∃ bR, Hid (bB + 1 = bR) := ⟨_, rfl⟩
  obtain ⟨bO, HO⟩ : ∃ bO, Hid (bR + 1 = bO) := ⟨_, rfl⟩
  have hleR : w.heap.size ≤ bR := by have := HA.out; have := HB.out; have := HR.out; omega
  have hleO : w.heap.size ≤ bO := by have := HO.out; omega
  have nA : bA ≠ bO := by have := HB.out; have := HR.out; have := HO.out; omega
  have nB : bB ≠ bO := by have := HR.out; have := HO.out; omega
  have nR : bR ≠ bO := by have := HO.out; omega
  rw [HA.out, HB.out, HR.out, HO.out] at hK0 ⊢
  go_loopw [6] (fun ii wr => ∃ (i : Nat) (o : Nat → Nat), i ≤ 4 ∧ ii = .int .i64 (i : Int) ∧ (∀ j, j < 8 → o j < 18446744073709551616) ∧ (∀ j, i + 4 ≤ j → o j = 0) ∧ Hid (vl o 8 = vl f i * vl g 4) ∧ Kp [(bO, A8 o, 80), (bR, A8 fun _ => 0, 80), (bB, A4 g, 54), (bA, A4 f, 54)] w wr) (fun ii _ => 4 - (intOf ii).toNat)
  case atStart => exact ⟨0, fun _ => 0, by omega, rfl, fun _ _ => by show 0 < 18446744073709551616; decide, fun _ _ => rfl, start_out f g, hK0⟩
  case round =>
    obtain ⟨i, o, hi4, rfl, hoo, hoz, Ho, hKr⟩ := hrel
    have hi0 : (0 : Int) ≤ (i : Int) := by omega
    by_cases hil : i < 4
    · have hii : (i : Int) < 4 := by omega
      go_wp2_with fail
      go_loopw [8, 7] (fun kk cc wr => ∃ (k c : Nat) (o' : Nat → Nat), k ≤ 4 ∧ kk = .int .i64 (k : Int) ∧ cc = .int .u64 (c : Int) ∧ c < 18446744073709551616 ∧ (∀ j, j < 8 → o' j < 18446744073709551616) ∧ (∀ j, i + 4 ≤ j → o' j = 0) ∧ Hid (vl o' 8 + c * 18446744073709551616 ^ (i + k) = vl o 8 + f i * vl g k * 18446744073709551616 ^ i) ∧ Kp [(bO, A8 o', 80), (bR, A8 fun _ => 0, 80), (bB, A4 g, 54), (bA, A4 f, 54)] w wr) (fun kk _ _ => 4 - (intOf kk).toNat)
      case atStart => exact ⟨0, 0, o, by omega, rfl, rfl, by decide, hoo, hoz, start_in _ _ _ _ g, hKr⟩
      case round =>
        obtain ⟨k, c, o', hk4, rfl, rfl, hc, hoo', hoz', Ho', hKi⟩ := hrel
        have hk0 : (0 : Int) ≤ (k : Int) := by omega
        by_cases hkl : k < 4
        · have hkk : (k : Int) < 4 := by omega
          obtain ⟨lo, hi, hlo, Hp, hhi⟩ : ∃ lo hi, lo < 18446744073709551616 ∧ Hid (f i * g k = lo + 18446744073709551616 * hi) ∧ hi < 18446744073709551615 := by
            have := word_mul (f i) (g k) (hf i hil) (hg k hkl)
            exact ⟨f i * g k % 18446744073709551616, f i * g k / 18446744073709551616, Nat.mod_lt _ (by decide), by show _ = _; omega, by omega⟩
          go_upto_region 9 with fail
          refine wp_region_lv 63 (fun _ => [(bO, A8 o', 80), (bR, A8 fun _ => 0, 80), (bB, A4 g, 54), (bA, A4 f, 54)]) [.v (.int .i64 (i : Int)), .v (.pointer (some ⟨bA, i, none⟩)), .v (.int .u64 (f i : Int)), .v (.int .i64 (k : Int)), .v (.pointer (some ⟨bB, k, none⟩)), .v (.int .u64 (g k : Int)), .v (.tuple #[.int .u64 (hi : Int), .int .u64 (lo : Int)]), .v (.tuple #[.int .u64 (hi : Int), .int .u64 (lo : Int)]), .v (.int .u64 (hi : Int)), .v (.int .u64 (lo : Int)), .v (.int .u64 (hi : Int)), .v (.int .u64 (lo : Int))] hKi (by kernel_rfl) (by kernel_rfl) (by kernel_rfl) (by rfl) ?_ ?_
          · exact .c (.p1 6 (.int .i64 (i : Int))) <| .c (.p2 2 (.pointer (some ⟨bA, 0, none⟩)) 21 (.int .i64 (i : Int))) <| .c (.x [(22, .pointer (some ⟨bA, i, none⟩))] fun _ ac wc _ _ hfx hkx hx => by have f22 := hfx _ (.head _); have cA := (hkx.at bA (A4 f) 54 (by simp)).cell (A4_at f i hil); unfold Oper.wp; go_simp; exact hx _ _ rfl (Below.refl _ _)) <| .c (.p1 8 (.int .i64 (k : Int))) <| .c (.p2 3 (.pointer (some ⟨bB, 0, none⟩)) 24 (.int .i64 (k : Int))) <| .c (.x [(25, .pointer (some ⟨bB, k, none⟩))] fun _ ac wc _ _ hfx hkx hx => by have f25 := hfx _ (.head _); have cB := (hkx.at bB (A4 g) 54 (by simp)).cell (A4_at g k hkl); unfold Oper.wp; go_simp; exact hx _ _ rfl (Below.refl _ _)) <| .c (.x [(23, .int .u64 (f i : Int)), (26, .int .u64 (g k : Int))] fun _ ac wc _ _ hfx hkx hx => by have f23 := hfx _ (.head _); have f26 := hfx _ (.tail _ (.head _)); unfold Oper.wp; go_simp; refine (mul64_at (hf i hil) (hg k hkl) hlo Hp.out _).mono ?_; rintro e w' ⟨rfl, rfl⟩; exact hx _ _ rfl (Below.refl _ _)) <| .c (.p1 27 (.tuple #[.int .u64 (hi : Int), .int .u64 (lo : Int)])) <| .c (.p1 20 (.tuple #[.int .u64 (hi : Int), .int .u64 (lo : Int)])) <| .c (.p1 20 (.tuple #[.int .u64 (hi : Int), .int .u64 (lo : Int)])) <| .c (.p1 28 (.int .u64 (hi : Int))) <| .c (.p1 29 (.int .u64 (lo : Int))) .nil
          · intro _ wq hJ _
            have hKq := hJ.1
            simp only [putL, Lv.val, Act.put, List.setIfInBounds_toArray, List.set_cons_succ, List.set_cons_zero]
            have hik : i + k < 8 := by omega
            obtain ⟨lo1, c1, hr1, hl1, hc1, he1⟩ := add64_any lo (o' (i + k)) 0 hlo (hoo' (i + k) hik) (by omega)
            obtain ⟨lo2, c2, hr2, hl2, hc2, he2⟩ := add64_any lo1 c 0 hl1 hc (by omega)
            have hr1 : ∀ w, (callFunc 85 #[.int .u64 (lo : Int), .int .u64 (o' (i + k) : Int), .int .u64 0]).run Tryz.prog w = .ok (.value (.tuple #[.int .u64 (lo1 : Int), .int .u64 (c1 : Int)])) w := hr1
            have hr2 : ∀ w, (callFunc 85 #[.int .u64 (lo1 : Int), .int .u64 (c : Int), .int .u64 0]).run Tryz.prog w = .ok (.value (.tuple #[.int .u64 (lo2 : Int), .int .u64 (c2 : Int)])) w := hr2
            have hw1 : IntKind.u64.wrap ((hi : Int) + (c1 : Int)) = ((hi + c1 : Nat) : Int) := by
              rw [show (hi : Int) + (c1 : Int) = ((hi + c1 : Nat) : Int) by omega]; exact wrap_small _ (by omega)
            have Hsum : Hid (f i * g k + o' (i + k) + c = lo2 + 18446744073709551616 * (hi + c1 + c2)) := by
              show _ = _
              have := Hp.out
              omega
            have hh2 : hi + c1 + c2 < 18446744073709551616 := by
              have h1 := word_mul (f i) (g k) (hf i hil) (hg k hkl)
              have h2 := hoo' (i + k) hik
              have h3 := Hsum.out
              generalize f i * g k = PP at *
              omega
            have hw2 : IntKind.u64.wrap (((hi + c1 : Nat) : Int) + (c2 : Int)) = ((hi + c1 + c2 : Nat) : Int) := by
              rw [show ((hi + c1 : Nat) : Int) + (c2 : Int) = ((hi + c1 + c2 : Nat) : Int) by omega]; exact wrap_small _ hh2
            have Hst := show Hid _ from times_step hik Ho'.out Hsum.out
            have cO := (hKq.at bO (A8 o') 80 (by simp)).cell (A8_at o' (i + k) hik)
            have fO := (hKq.at bO (A8 o') 80 (by simp)).frozen (i + k)
            have hiki : (i : Int) + (k : Int) < 8 := by omega
            have hik0 : (0 : Int) ≤ (i : Int) + (k : Int) := by omega
            have hikt : ((i : Int) + (k : Int)).toNat = i + k := by omega
            clear he1 he2
            generalize hi + c1 + c2 = h2 at *
            generalize hi + c1 = h1 at *
            generalize o' (i + k) = x at cO hr1
            go_wp2_with (first | simp only [hr1] | simp only [hr2])
            refine ⟨⟨k + 1, h2, upd o' (i + k) lo2, by omega, by go_num, rfl, hh2, fun j hj => ?_, fun j hj => ?_, Hst.out, ?_⟩, by simp [intOf]; omega⟩
            · by_cases e : j = i + k
              · rw [e, upd_same]; exact hl2
              · rw [upd_other _ _ _ _ e]; exact hoo' j hj
            · rw [upd_other _ _ _ _ (by omega)]; exact hoz' j hj
            · have := Kp.setCell (i := i + k) (v := .int .u64 (lo2 : Int)) hKq (by simp; omega) hleO
              rw [A8_set o' (i + k) lo2 hik] at this
              exact this
        · have hkk : ¬ (k : Int) < 4 := by omega
          have hk4' : k = 4 := by omega
          have Hrow : Hid (vl (upd o' (i + 4) c) 8 = vl f (i + 1) * vl g 4) := by
            show _ = _
            have h1 := Ho'.out
            rw [hk4'] at h1
            exact times_row (by omega) (hoz' (i + 4) (by omega)) Ho.out h1
          clear hk4'
          have cO := (hKi.at bO (A8 o') 80 (by simp)).cell (A8_at o' (i + 4) (by omega))
          have fO := (hKi.at bO (A8 o') 80 (by simp)).frozen (i + 4)
          have hi4i : (i : Int) + 4 < 8 := by omega
          have hi40 : (0 : Int) ≤ (i : Int) + 4 := by omega
          have hi4t : ((i : Int) + 4).toNat = i + 4 := by omega
          go_wp2_with fail
          refine ⟨⟨i + 1, upd o' (i + 4) c, by omega, by go_num, fun j hj => ?_, fun j hj => ?_, Hrow.out, ?_⟩, by simp [intOf]; omega⟩
          · by_cases e : j = i + 4
            · rw [e, upd_same]; exact hc
            · rw [upd_other _ _ _ _ e]; exact hoo' j hj
          · rw [upd_other _ _ _ _ (by omega)]; exact hoz' j (by omega)
          · have := Kp.setCell (i := i + 4) (v := .int .u64 (c : Int)) hKi (by simp; omega) hleO
            rw [A8_set o' (i + 4) c (by omega)] at this
            exact this
    · have hii : ¬ (i : Int) < 4 := by omega
      have hi4' : i = 4 := by omega
      have Hfin : Hid (vl o 8 = vl f 4 * vl g 4) := by
        show _ = _
        have := Ho.out
        rwa [hi4'] at this
      clear hi4'
      go_upto_region 16 with fail
      go_wp2_with (first
        | refine wpList_load_own (by rfl) 80 (.tmp 5) (by rfl) bO (by rfl) (A8 o) _ (hKr.at bO (A8 o) 80 (by simp)) Tryz.underlying80 (by rfl) infoA8 ?_
        | refine wpList_store_own (by rfl) 80 (.tmp 4) (.tmp 62) (by rfl) bR 0 (A8 o) (by rfl) (by rfl) (hKr.at bR (A8 fun _ => 0) 80 (by simp)) (Nat.le_refl _) infoA8 (A8_one o) (by rfl) ?_)
      refine bodyPost_ret (results_own Tryz.results84 _ _ bR (A8 o) _ (by rfl) (own_setCells (hKr.at bR (A8 fun _ => 0) 80 (by simp)) rfl) Tryz.underlying80 rfl infoA8) rfl ⟨⟨o, rfl, hoo, Hfin.out⟩, ?_⟩
      exact Below.setCells _ _ _ _ hleR hKr.2
end Go.Proofs.YtgibllaifnnfkaaGreatDoor
namespace Go.Proofs.YtgibllaifnnfkaaGreatDoor
open Go.RowKit
theorem vl_split (o : Nat → Nat) : ∀ n, vl o (n + 4) = vl o 4 + 18446744073709551616 ^ 4 * vl (fun j => o (j + 4)) n
  | 0 => by rw [Nat.zero_add, vl_first, Nat.mul_zero, Nat.add_zero]
  | n + 1 => by
    have e1 : vl o (n + 1 + 4) = vl o (n + 4) + o (n + 4) * 18446744073709551616 ^ (n + 4) := by rw [Nat.add_right_comm n 1 4]; exact Eq.refl _
    have e2 : vl (fun j => o (j + 4)) (n + 1) = vl (fun j => o (j + 4)) n + o (n + 4) * 18446744073709551616 ^ n := Eq.refl _
    rw [e1, e2, vl_split o n, Nat.mul_add, Nat.pow_add, Nat.add_assoc, Nat.mul_comm (18446744073709551616 ^ n), Nat.mul_left_comm (o (n + 4))]
def rdA (A : Array Value) : Nat := vl (fun i => (intOf (A.getD i undef)).toNat) 4
def rd (w : World) (b : Nat) : Nat := match w.heap[b]? with
  | some (.cells A _ _) => rdA A
  | _ => 0
theorem rdA_num (n : Nat) (h : n < R256) : rdA (numA n) = n := by
  have : rdA (numA n) = vl (dig n) 4 := by
    unfold rdA
    refine vl_congr 4 fun i hi => ?_
    have := numA_at n i hi
    rw [Array.getD_eq_getD_getElem?, this]
    simp [intOf]
  rw [this, vl_num n h]
theorem rd_own {w : World} {b n : Nat} {t : TypeId} (ho : Own w b (numA n) t) (h : n < R256) : rd w b = n := by
  have ho' : w.heap[b]? = some (.cells (numA n) t (0, 0)) := ho
  unfold rd
  rw [ho']
  exact rdA_num n h
def meas (v : Value) (x y : Nat) : Nat := match v with
  | .bool true => x + R256 * y + 1
  | _ => 0
theorem meas_less {lo hi s h : Nat} {m' : Bool} (hlo : lo < R256) (e : lo + 38 * hi = s + R256 * h) (hm : ((h : Int) != 0) = m') : meas (.bool m') s h < meas (.bool true) lo hi := by
  have h38 : 38 < R256 := by decide
  cases m' with
  | false => show 0 < lo + R256 * hi + 1; exact Nat.succ_pos _
  | true =>
    show s + R256 * h + 1 < lo + R256 * hi + 1
    rw [← e]
    have hh : h ≠ 0 := fun z => by rw [z] at hm; simp at hm
    generalize R256 = R at *
    have hhi : 0 < hi := by
      rcases Nat.eq_zero_or_pos hi with z | z
      · exfalso
        rw [z, Nat.mul_zero, Nat.add_zero] at e
        have : R * 1 ≤ R * h := Nat.mul_le_mul_left _ (by omega)
        omega
      · exact z
    have := Nat.mul_lt_mul_of_pos_right h38 hhi
    omega
theorem Kp.set2 {l : List (Nat × Array Value × TypeId)} {w0 w : World} {b : Nat} {A A' : Array Value} {t : TypeId} {q : Nat × Array Value × TypeId} (h : Kp (q :: (b, A, t) :: l) w0 w) (hl : ∀ p ∈ q :: l, p.1 ≠ b) (hb : w0.heap.size ≤ b) (hs : A'.size = A.size) : Kp (q :: (b, A', t) :: l) w0 (w.setCells b 0 A'.toList) := by
  have h1 : Kp ((b, A, t) :: q :: l) w0 w := h.sub (fun p hp => by
    simp only [List.mem_cons] at hp ⊢
    rcases hp with h | h | h
    · exact .inr (.inl h)
    · exact .inl h
    · exact .inr (.inr h))
  exact (h1.set hl hb hs).sub (fun p hp => by
    simp only [List.mem_cons] at hp ⊢
    rcases hp with h | h | h
    · exact .inr (.inl h)
    · exact .inl h
    · exact .inr (.inr h))
theorem fold_top (x : Nat → Nat) (hx : ∀ i, i < 8 → x i < 18446744073709551616) {hi : Nat} (hhi : hi < R256) (e : vl x 8 = hi * 38) : x 4 < 38 ∧ Hid (vl x 4 + R256 * x 4 = hi * 38) := by
  have h1 := vl_split x 4
  have h2 : vl x (4 + 4) = hi * 38 := e
  rw [h2, pow4] at h1
  have h3 := dig_vl (fun j => x (j + 4)) 4 (fun i hi => hx (i + 4) (by omega)) 0 (by omega)
  have h4 : vl (fun j => x (j + 4)) 4 < 38 := by
    rcases Nat.lt_or_ge (vl (fun j => x (j + 4)) 4) 38 with h | h
    · exact h
    · exfalso
      have : R256 * 38 ≤ R256 * vl (fun j => x (j + 4)) 4 := Nat.mul_le_mul_left _ h
      omega
  generalize vl (fun j => x (j + 4)) 4 = y at *
  have h5 : x 4 = y := by
    rw [← h3]
    unfold dig
    rw [Nat.pow_zero, Nat.div_one, Nat.mod_eq_of_lt (by omega)]
  rw [h5]
  exact ⟨h4, h1.symm⟩
def valQ (bT s c h : Nat) (x : Nat → Nat) : Nat → Value
  | 0 => .agg (numA s)
  | 1 => .pointer (some ⟨bT, 4, none⟩)
  | 2 => .int .u64 (x 4 : Int)
  | 3 => .int .u64 (c : Int)
  | 4 => .int .u64 (h : Int)
  | _ => .agg (numA h)
theorem times_any (a b : Nat) (ha : a < R256) (hb : b < R256) (w : World) :
    Calls Tryz.prog 84 #[.agg (numA a), .agg (numA b)] w fun e w' => (∃ o : Nat → Nat, e = .returned (.agg (A8 o)) ∧ (∀ i, i < 8 → o i < 18446744073709551616) ∧ vl o 8 = a * b) ∧ Below w.heap.size w w' := by
  refine (times_dig (dig a) (dig b) (fun i _ => dig_lt a i) (fun i _ => dig_lt b i) w).mono ?_
  rintro e w' ⟨⟨o, rfl, ho, he⟩, hB⟩
  rw [vl_num a ha, vl_num b hb] at he
  exact ⟨⟨o, rfl, ho, he⟩, hB⟩
set_option maxRecDepth 100000 in
set_option maxHeartbeats 8000000 in
theorem fmul_any (a b : Nat) (ha : a < R256) (hb : b < R256) (w : World) : Calls Tryz.prog 68 #[.agg (numA a), .agg (numA b)] w fun e w' => e = .returned (.agg (numA (a * b % pp))) ∧ Below w.heap.size w w' := by
  obtain ⟨r, Hr⟩ : ∃ r, Hid (a * b % pp = r) := ⟨_, rfl⟩
  rw [Hr.out]
  have hz := (zero_of_info zeroLit).1
  have hz8 := (zero_of_info zeroA8).1
  go_enter Tryz.func68, Tryz.ntmps68
  go_upto_region 1 with fail
  have hK0 := (((Kp.nil w).alloc (numA a) 54).alloc (numA b) 54).alloc (numA 0) 54
  rw [World.size_alloc, World.size_alloc] at hK0
  rw [show (#[.int .u64 0, .int .u64 0, .int .u64 0, .int .u64 0] : Array Value) = numA 0 from rfl]
  generalize ((w.alloc (.cells (numA a) 54)).alloc (.cells (numA b) 54)).alloc (.cells (numA 0) 54) = W at *
  obtain ⟨bA, HA⟩ : ∃ bA, Hid (w.heap.size = bA) := ⟨_, rfl⟩
  obtain ⟨bB, HB⟩ : ∃ bB, Hid (bA + 1 = bB) := ⟨_, rfl⟩
  obtain ⟨bR, HR⟩ : ∃ bR, Hid (bB + 1 = bR) := ⟨_, rfl⟩
  have hle : w.heap.size ≤ bR := by have := HA.out; have := HB.out; have := HR.out; omega
  rw [HA.out, HB.out, HR.out] at hK0 ⊢
  go_wp2_with (first
    | refine wpList_load_own (by rfl) 54 (.tmp 2) (by rfl) bA (by rfl) (numA a) _ (hK0.at bA (numA a) 54 (by simp)) Tryz.underlying54 (by rfl) (numA_info a) ?_
    | refine wpList_load_own (by rfl) 54 (.tmp 3) (by rfl) bB (by rfl) (numA b) _ (hK0.at bB (numA b) 54 (by simp)) Tryz.underlying54 (by rfl) (numA_info b) ?_)
  refine (times_any a b ha hb W).mono ?_
  rintro e w1 ⟨⟨o, rfl, ho, he⟩, hB1⟩
  have hK1 := (hK0.below hB1).alloc (A8 o) 80
  have hlo := vl4_lt o (fun i hi => ho i (by omega))
  have hhi := vl4_lt (fun j => o (j + 4)) (fun i hi => ho (i + 4) (by omega))
  have Hab : Hid (vl o 4 + R256 * vl (fun j => o (j + 4)) 4 = a * b) := by
    show _ = _
    rw [← he, vl_split o 4, pow4]
  have hLo : numA (vl o 4) = A4 o := (A4_num o (fun i hi => ho i (by omega))).symm
  have hHi : numA (vl (fun j => o (j + 4)) 4) = A4 (fun j => o (j + 4)) := (A4_num _ (fun i hi => ho (i + 4) (by omega))).symm
  have HLo := show Hid _ from hLo
  have HHi := show Hid _ from hHi
  clear he hLo hHi
  generalize vl o 4 = lo0 at *
  generalize vl (fun j => o (j + 4)) 4 = hi0 at *
  go_upto_region 2 with (refine wpList_store_new (by rfl) 80 (.tmp 5) (.tmp 14) (by rfl) _ (A8 o) (by rfl) (by rfl) infoA8 (by rfl) (A8_one o) (by rfl) ?_)
  generalize w1.alloc (.cells (A8 o) 80) = W1 at *
  generalize w1.heap.size = bT at *
  have oT := hK1.at bT (A8 o) 80 (by simp)
  have c0 := oT.cell (A8_at o 0 (by omega))
  have c1 := oT.cell (A8_at o 1 (by omega))
  have c2 := oT.cell (A8_at o 2 (by omega))
  have c3 := oT.cell (A8_at o 3 (by omega))
  have hK2 := hK1.alloc (numA lo0) 54
  go_upto_region 3 with (refine wpList_store_new (by rfl) 54 (.tmp 6) (.tmp 23) (by rfl) _ (numA lo0) (by rfl) (by rw [HLo.out]; rfl) (numA_info lo0) (lit4_size _ _ _ _ _) (numA_one lo0) (by rfl) ?_)
  clear c0 c1 c2 c3 oT
  have neL := fun p hp => Nat.ne_of_lt (hK1.1 p hp).lt
  have hleL : w.heap.size ≤ W1.heap.size := hK1.2.size
  generalize W1.alloc (.cells (numA lo0) 54) = W2 at *
  generalize W1.heap.size = bL at *
  have oT := hK2.at bT (A8 o) 80 (by simp)
  have c4 := oT.cell (A8_at o 4 (by omega))
  have c5 := oT.cell (A8_at o 5 (by omega))
  have c6 := oT.cell (A8_at o 6 (by omega))
  have c7 := oT.cell (A8_at o 7 (by omega))
  have hK3 := hK2.alloc (numA hi0) 54
  go_upto_region 4 with (refine wpList_store_new (by rfl) 54 (.tmp 7) (.tmp 32) (by rfl) _ (numA hi0) (by rfl) (by rw [HHi.out]; rfl) (numA_info hi0) (lit4_size _ _ _ _ _) (numA_one hi0) (by rfl) ?_)
  clear c4 c5 c6 c7 oT
  have neH := fun p hp => Nat.ne_of_lt (hK2.1 p hp).lt
  have hleH : w.heap.size ≤ W2.heap.size := hK2.2.size
  generalize W2.alloc (.cells (numA hi0) 54) = W3 at *
  generalize W2.heap.size = bH at *
  have n1 : bR ≠ bL := neL (bR, numA 0, 54) (by simp)
  have n2 : bR ≠ bH := neH (bR, numA 0, 54) (by simp)
  have n3 : bL ≠ bH := neH (bL, numA lo0, 54) (by simp)
  have hK4 : Kp [(bL, numA lo0, 54), (bH, numA hi0, 54), (bR, numA 0, 54)] w W3 := hK3.sub (by simp)
  clear hK0 hK1 hK2 hK3 neL neH HLo HHi hB1
  go_wp2_with fail
  go_loopw [8] (fun mm wr => ∃ (m : Bool) (lo hi : Nat), mm = .bool m ∧ lo < R256 ∧ hi < R256 ∧ Hid ((lo + R256 * hi) % pp = r) ∧ (m = false → hi = 0) ∧ Kp [(bL, numA lo, 54), (bH, numA hi, 54), (bR, numA 0, 54)] w wr) (fun mm wr => meas mm (rd wr bL) (rd wr bH))
  case atStart => exact ⟨true, lo0, hi0, rfl, hlo, hhi, by show _ = _; rw [Hab.out, Hr.out], fun e => by (cases e), hK4⟩
  case round =>
    obtain ⟨m, lo, hi, rfl, hlo, hhi, Hm, hmz, hKr⟩ := hrel
    have Hml : Hid (rd wr bL = lo) := rd_own (hKr.at bL (numA lo) 54 (by simp)) hlo
    have Hmh : Hid (rd wr bH = hi) := rd_own (hKr.at bH (numA hi) 54 (by simp)) hhi
    cases m
    · have hi0' := hmz rfl
      subst hi0'
      have Hlo : Hid (lo % pp = r) := by
        show _ = _
        have := Hm.out
        rwa [Nat.mul_zero, Nat.add_zero] at this
      go_upto_region 10 with fail
      go_wp2_with (refine wpList_load_own (by rfl) 54 (.tmp 6) (by rfl) bL (by rfl) (numA lo) _ (hKr.at bL (numA lo) 54 (by simp)) Tryz.underlying54 (by rfl) (numA_info lo) ?_)
      refine (mod_any lo hlo wr).mono ?_
      rintro e w2 ⟨rfl, hB2⟩
      have hK2 := hKr.below hB2
      rw [Hlo.out]
      go_wp2_with (refine wpList_store_own (by rfl) 54 (.tmp 4) (.tmp 61) (by rfl) bR 0 (numA r) (by rfl) (by rfl) (hK2.at bR (numA 0) 54 (by simp)) (Nat.le_refl _) (numA_info r) (numA_one r) (by rfl) ?_)
      refine bodyPost_ret (results_own Tryz.results68 _ _ bR (numA r) _ (by rfl) (own_setCells (hK2.at bR (numA 0) 54 (by simp)) (numA_sizes r 0)) Tryz.underlying54 rfl (numA_info r)) rfl ⟨rfl, ?_⟩
      exact Below.setCells _ _ _ _ hle hK2.2
    · go_upto_region 6 with fail
      go_wp2_with (refine wpList_load_own (by rfl) 54 (.tmp 7) (by rfl) bH (by rfl) (numA hi) _ (hKr.at bH (numA hi) 54 (by simp)) Tryz.underlying54 (by rfl) (numA_info hi) ?_)
      rw [show (#[.int .u64 38, .int .u64 0, .int .u64 0, .int .u64 0] : Array Value) = numA 38 from (numA_word 38 (by decide)).symm]
      refine (times_any hi 38 hhi (by decide) wr).mono ?_
      rintro e w1 ⟨⟨x, rfl, hx, hex⟩, hB1⟩
      have hX := vl4_lt x (fun i hi => hx i (by omega))
      obtain ⟨h4, Hx4⟩ := fold_top x hx hhi hex
      have HXn : Hid (numA (vl x 4) = A4 x) := (A4_num x (fun i hi => hx i (by omega))).symm
      clear hex
      have hK1 := (hKr.below hB1).alloc (A8 x) 80
      have ne1 := fun p hp => Nat.ne_of_lt ((hKr.below hB1).1 p hp).lt
      go_upto_region 7 with (refine wpList_store_new (by rfl) 80 (.tmp 9) (.tmp 36) (by rfl) _ (A8 x) (by rfl) (by rfl) infoA8 (by rfl) (A8_one x) (by rfl) ?_)
      generalize w1.alloc (.cells (A8 x) 80) = W4 at *
      generalize w1.heap.size = bX at *
      have m1 : bL ≠ bX := ne1 (bL, numA lo, 54) (by simp)
      have m2 : bH ≠ bX := ne1 (bH, numA hi, 54) (by simp)
      have m3 : bR ≠ bX := ne1 (bR, numA 0, 54) (by simp)
      have oX := hK1.at bX (A8 x) 80 (by simp)
      have c0 := oX.cell (A8_at x 0 (by omega))
      have c1 := oX.cell (A8_at x 1 (by omega))
      have c2 := oX.cell (A8_at x 2 (by omega))
      have c3 := oX.cell (A8_at x 3 (by omega))
      go_wp2_with (refine wpList_load_own (by rfl) 54 (.tmp 6) (by rfl) bL (by rfl) (numA lo) _ (hK1.at bL (numA lo) 54 (by simp)) Tryz.underlying54 (by rfl) (numA_info lo) ?_)
      rw [show (#[.int .u64 (x 0 : Int), .int .u64 (x 1 : Int), .int .u64 (x 2 : Int), .int .u64 (x 3 : Int)] : Array Value) = numA (vl x 4) from HXn.out.symm]
      generalize vl x 4 = X at *
      clear c0 c1 c2 c3 oX HXn
      refine (add_any lo X hlo hX W4).mono ?_
      rintro e w2 ⟨⟨s, c, rfl, hs, hc, hes⟩, hB2⟩
      have hK2 := (hK1.below hB2).alloc (numA s) 54
      have ne2 := fun p hp => Nat.ne_of_lt ((hK1.below hB2).1 p hp).lt
      go_upto_region 8 with (refine wpList_store_new (by rfl) 54 (.tmp 10) (.tmp 49) (by rfl) _ (numA s) (by rfl) (by rfl) (numA_info s) (lit4_size _ _ _ _ _) (numA_one s) (by rfl) ?_)
      generalize w2.alloc (.cells (numA s) 54) = W5 at *
      generalize w2.heap.size = bS at *
      have m4 : bX ≠ bS := ne2 (bX, A8 x, 80) (by simp)
      have m5 : bL ≠ bS := ne2 (bL, numA lo, 54) (by simp)
      have m6 : bH ≠ bS := ne2 (bH, numA hi, 54) (by simp)
      have m7 : bR ≠ bS := ne2 (bR, numA 0, 54) (by simp)
      obtain ⟨h, Hh⟩ : ∃ h, Hid (x 4 + c = h) := ⟨_, rfl⟩
      have hh : h < 18446744073709551616 := by have := Hh.out; omega
      have Hfold : Hid (lo + 38 * hi = s + R256 * h) := by
        show _ = _
        have h1 := Hx4.out
        have h2 := Hh.out
        rw [← h2, Nat.mul_add]
        omega
      have hw4 : IntKind.u64.wrap ((x 4 : Int) + (c : Int)) = (h : Int) := by
        rw [show (x 4 : Int) + (c : Int) = ((h : Nat) : Int) by have := Hh.out; omega]; exact wrap_small _ hh
      have hK5 : Kp [(bL, numA lo, 54), (bH, numA hi, 54), (bS, numA s, 54), (bX, A8 x, 80), (bR, numA 0, 54)] w W5 := hK2.sub (by simp)
      clear hK1 hK2 ne1 ne2 hes
      refine wp_region_vals 62 (by kernel_rfl) (by kernel_rfl) (by rfl) (valQ bX s c h x) (fun L => Kp [(bL, if L 6 = true then numA s else numA lo, 54), (bH, if L 7 = true then numA h else numA hi, 54), (bS, numA s, 54), (bX, A8 x, 80), (bR, numA 0, 54)] w) hK5.drew ?_ ?_
      · intro L ac wc i' o' hF hLi ho' hd K hK
        rcases i' with _ | _ | _ | _ | _ | _ | _ | _ | i'
        · have ho'' := ho'
          obtain rfl := Option.some.inj ho'
          have f10 : ac.tmps.getD 10 undef = .pointer (some ⟨bS, 0, none⟩) := slotv hF 0 hLi 10 (by kernel_rfl)
          refine step_do ho'' (wanted_free rfl) ?_
          exact wp_load_own 54 (.tmp 10) rfl bS f10 (numA s) _ 54 (hF.j.at bS (numA s) 54 (by simp)) Tryz.underlying54 rfl (numA_info s) (hK _ _ (.inr rfl) hF.j)
        · have ho'' := ho'
          obtain rfl := Option.some.inj ho'
          have f9 : ac.tmps.getD 9 undef = .pointer (some ⟨bX, 0, none⟩) := slotv hF 1 hLi 9 (by kernel_rfl)
          refine step_do ho'' (wanted_free rfl) ?_
          unfold Oper.wp
          go_simp
          exact hK _ _ (.inr rfl) hF.j
        · have ho'' := ho'
          obtain rfl := Option.some.inj ho'
          have f52 : ac.tmps.getD 52 undef = .pointer (some ⟨bX, 4, none⟩) := valv hF hd 1 rfl rfl (by kernel_rfl)
          refine step_do ho'' (wanted_free rfl) ?_
          have cT := (hF.j.at bX (A8 x) 80 (by simp)).cell (A8_at x 4 (by omega))
          unfold Oper.wp
          go_simp
          exact hK _ _ (.inr rfl) hF.j
        · have ho'' := ho'
          obtain rfl := Option.some.inj ho'
          have f11 : ac.tmps.getD 11 undef = .int .u64 (c : Int) := slotv hF 3 hLi 11 (by kernel_rfl)
          refine step_do ho'' (wanted_free rfl) ?_
          unfold Oper.wp
          go_simp
          exact hK _ _ (.inr rfl) hF.j
        · have ho'' := ho'
          obtain rfl := Option.some.inj ho'
          have f53 : ac.tmps.getD 53 undef = .int .u64 (x 4 : Int) := valv hF hd 2 rfl rfl (by kernel_rfl)
          have f54 : ac.tmps.getD 54 undef = .int .u64 (c : Int) := valv hF hd 3 rfl rfl (by kernel_rfl)
          refine step_do ho'' (wanted_free rfl) ?_
          unfold Oper.wp
          go_simp
          exact hK _ _ (.inr rfl) hF.j
        · have ho'' := ho'
          obtain rfl := Option.some.inj ho'
          have f55 : ac.tmps.getD 55 undef = .int .u64 (h : Int) := valv hF hd 4 rfl rfl (by kernel_rfl)
          refine step_do ho'' (wanted_free rfl) ?_
          have q55 := getq f55
          unfold Oper.wp
          go_simp
          exact hK _ _ (.inr (by show _ = Value.agg (numA h); rw [numA_word h hh])) hF.j
        · have ho'' := ho'
          obtain rfl := Option.some.inj ho'
          have f6 : ac.tmps.getD 6 undef = .pointer (some ⟨bL, 0, none⟩) := slotv hF 6 hLi 6 (by kernel_rfl)
          have f51 : ac.tmps.getD 51 undef = .agg (numA s) := valv hF hd 0 rfl rfl (by kernel_rfl)
          refine step_do ho'' (wanted_free rfl) ?_
          have hj := hF.j
          rw [hLi] at hj
          refine wp_store_own 54 (.tmp 6) (.tmp 51) rfl bL (numA s) f6 f51 (hj.at bL (numA lo) 54 (by simp)) rfl (numA_info s) (numA_one s) rfl ?_
          exact hK undef _ (.inl rfl) (Kp.set hj (by simp; omega) hleL rfl)
        · have ho'' := ho'
          obtain rfl := Option.some.inj ho'
          have f7 : ac.tmps.getD 7 undef = .pointer (some ⟨bH, 0, none⟩) := slotv hF 7 hLi 7 (by kernel_rfl)
          have f56 : ac.tmps.getD 56 undef = .agg (numA h) := valv hF hd 5 rfl rfl (by kernel_rfl)
          refine step_do ho'' (wanted_free rfl) ?_
          have hj := hF.j
          rw [hLi] at hj
          refine wp_store_own 54 (.tmp 7) (.tmp 56) rfl bH (numA h) f7 f56 (hj.at bH (numA hi) 54 (by simp)) rfl (numA_info h) (numA_one h) rfl ?_
          exact hK undef _ (.inl rfl) (Kp.set2 hj (by simp; omega) hleH rfl)
        · cases ho'
      · intro L wq hL hKq
        have h6 := hL 6 (by decide)
        have h7 := hL 7 (by decide)
        rw [h6, h7] at hKq
        have hKq : Kp [(bL, numA s, 54), (bH, numA h, 54), (bS, numA s, 54), (bX, A8 x, 80), (bR, numA 0, 54)] w wq := hKq
        simp only [putAll, valQ]
        have cH := (hKq.at bH (numA h) 54 (by simp)).cell (numA_at h 0 (by omega))
        rw [show dig h 0 = h by unfold dig; rw [Nat.pow_zero, Nat.div_one, Nat.mod_eq_of_lt hh]] at cH
        have Rl := rd_own (hKq.at bL (numA s) 54 (by simp)) hs
        have Rh := rd_own (hKq.at bH (numA h) 54 (by simp)) (Nat.lt_trans hh (by decide))
        have HRl := show Hid _ from Rl
        have HRh := show Hid _ from Rh
        clear Rl Rh
        obtain ⟨m', Hm'⟩ : ∃ m', Hid (((h : Int) != 0) = m') := ⟨_, rfl⟩
        have hm' := Hm'.out
        go_wp2_with fail
        refine ⟨⟨m', s, h, rfl, hs, Nat.lt_trans hh (by decide), (fold_mod lo hi s h Hfold.out).trans Hm.out, fun e => ?_, hKq.sub (by simp)⟩, ?_⟩
        · rw [e] at hm'
          have : (h : Int) = 0 := by simpa using hm'
          omega
        · rw [HRl.out, HRh.out, Hml.out, Hmh.out]
          exact meas_less hlo Hfold.out hm'
end Go.Proofs.YtgibllaifnnfkaaGreatDoor
