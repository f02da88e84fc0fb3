/- Of the texts E13: what the card of this claim reaches. -/
import Derived.Test.YtfkcphbbabaefaaGreatDoorXC3
namespace Go.Proofs.YtfkcphbbabaefaaGreatDoor
open Go.RowKit
set_option maxRecDepth 100000 in
set_option maxHeartbeats 8000000 in
theorem of_any (a : Nat) (ha : a < R256) (w : World) : Calls Tryz.prog 51 #[.agg (B32 (bdig a))] w fun x w' => x = .returned (.agg (numA a)) ∧ Below w.heap.size w w' := by
  have hz := (zero_of_info zeroNum).1
  go_enter Tryz.func51, Tryz.ntmps51
  go_wp2_with fail
  have hK0 := (((Kp.nil w).alloc (B32 (bdig a)) 22).alloc (numA 0) 50).alloc (numA 0) 50
  rw [World.size_alloc, World.size_alloc] at hK0
  rw [← zero_num]
  generalize ((w.alloc (.cells (B32 (bdig a)) 22)).alloc (.cells (numA 0) 50)).alloc (.cells (numA 0) 50) = W at *
  obtain ⟨bA, HA⟩ : ∃ bA, Hid (w.heap.size = bA) := ⟨_, rfl⟩
  obtain ⟨bR, HR⟩ : ∃ bR, Hid (bA + 1 = bR) := ⟨_, rfl⟩
  obtain ⟨bO, HO⟩ : ∃ bO, Hid (bR + 1 = bO) := ⟨_, rfl⟩
  have hle : w.heap.size ≤ bR := by have := HA.out; have := HR.out; omega
  have hleO : w.heap.size ≤ bO := by have := HO.out; omega
  have n1 : bA ≠ bO := by have := HR.out; have := HO.out; omega
  have n2 : bR ≠ bO := by have := HO.out; omega
  rw [HA.out, HR.out, HO.out] at hK0 ⊢
  go_loopw [4] (fun ii wr => ∃ (k x : Nat), k ≤ 32 ∧ ii = .int .i64 (k : Int) ∧ x < 256 ^ k ∧ Hid (x = a % 256 ^ k) ∧ Kp [(bO, numA x, 50), (bR, numA 0, 50), (bA, B32 (bdig a), 22)] w wr) (fun ii _ => 32 - (intOf ii).toNat)
  case atStart => exact ⟨0, 0, by omega, rfl, by decide, by show _ = _; rw [Nat.pow_zero, Nat.mod_one], hK0⟩
  case round =>
    obtain ⟨k, x, hk, rfl, hx, Hx, hKr⟩ := hrel
    have hk0 : (0 : Int) ≤ (k : Int) := by omega
    by_cases hlt : k < 32
    · have hki : (k : Int) < 32 := by omega
      have hd4 : k / 8 < 4 := by omega
      have cA := (hKr.at bA (B32 (bdig a)) 22 (by simp)).cell (B32_at (bdig a) k hlt)
      have cO := (hKr.at bO (numA x) 50 (by simp)).cell (numA_at x (k / 8) hd4)
      have fO := (hKr.at bO (numA x) 50 (by simp)).frozen (k / 8)
      have hc := bdig_lt a k
      have hdv : (k : Int).tdiv 8 = ((k / 8 : Nat) : Int) := by rw [Int.tdiv_eq_ediv_of_nonneg (by omega)]; omega
      have hmd : (k : Int).tmod 8 = ((k % 8 : Nat) : Int) := by rw [Int.tmod_eq_emod_of_nonneg (by omega)]; omega
      have hd40 : (0 : Int) ≤ ((k / 8 : Nat) : Int) := by omega
      have hd41 : ((k / 8 : Nat) : Int) < 4 := by omega
      have hm0 : (0 : Int) ≤ 8 * ((k % 8 : Nat) : Int) := by omega
      have hm1 : 8 * ((k % 8 : Nat) : Int) < 64 := by omega
      have hm2 : ((k % 8 : Nat) : Int) < 8 := by omega
      have hm3 : (0 : Int) ≤ ((k % 8 : Nat) : Int) := by omega
      have hs := shl_byte (k := k) hc
      have hor := or_byte hx hc
      have hK1 := Kp.setCell (i := k / 8) (v := .int .u64 ((dig x (k / 8) + bdig a k * 256 ^ (k % 8) : Nat) : Int)) hKr (by simp; omega) hleO
      have hK2 : Kp [(bO, numA (a % 256 ^ (k + 1)), 50), (bR, numA 0, 50), (bA, B32 (bdig a), 22)] w (wr.setCell ⟨bO, k / 8, none⟩ (.int .u64 ((dig x (k / 8) + bdig a k * 256 ^ (k % 8) : Nat) : Int))) := by
        have e : (numA x).setIfInBounds (k / 8) (.int .u64 ((dig x (k / 8) + bdig a k * 256 ^ (k % 8) : Nat) : Int)) = numA (a % 256 ^ (k + 1)) := by
          unfold numA
          rw [A4_set _ _ _ hd4, mod_more, ← Hx.out]
          exact A4_congr fun j _ => (dig_more hx hc j).symm
        rw [e] at hK1
        exact hK1
      have HK2 := show Hid _ from hK2
      clear hK1 hK2
      have hc0 : (0 : Int) ≤ ((bdig a k : Nat) : Int) := by omega
      have hc1 : ((bdig a k : Nat) : Int) < 256 := by omega
      generalize dig x (k / 8) + bdig a k * 256 ^ (k % 8) = v at *
      generalize bdig a k * 256 ^ (k % 8) = u at *
      generalize hCC : bdig a k = c at cA hs hc0 hc1
      clear hCC
      generalize dig x (k / 8) = d at *
      generalize k / 8 = D at *
      generalize k % 8 = M at *
      go_wp2_with fail
      go_region
      go_wp2_with fail
      refine ⟨⟨k + 1, a % 256 ^ (k + 1), by omega, by go_num, Nat.mod_lt _ (Nat.pow_pos (by decide)), rfl, Kp.below HK2.out ((Below.refl _ _).drew)⟩, by simp [intOf]; omega⟩
    · have hki : ¬ (k : Int) < 32 := by omega
      have He : Hid (x = a) := by
        show _ = _
        have hk32 : k = 32 := by omega
        rw [Hx.out, hk32]
        exact Nat.mod_eq_of_lt ha
      go_upto_region 6 with fail
      go_wp2_with (first
        | refine wpList_load_own (by rfl) 50 (.tmp 3) (by rfl) bO (by rfl) (numA x) _ (hKr.at bO (numA x) 50 (by simp)) Tryz.underlying50 (by rfl) (numA_info x) ?_
        | refine wpList_store_own (by rfl) 50 (.tmp 2) (.tmp 24) (by rfl) bR 0 (numA x) (by rfl) (by rfl) (hKr.at bR (numA 0) 50 (by simp)) (Nat.le_refl _) (numA_info x) (numA_one x) (by rfl) ?_)
      refine bodyPost_ret (results_own Tryz.results51 _ _ bR (numA x) _ (by rfl) (own_setCells (hKr.at bR (numA 0) 50 (by simp)) (numA_sizes x 0)) Tryz.underlying50 rfl (numA_info x)) rfl ⟨by rw [He.out], ?_⟩
      exact Below.setCells _ _ _ _ hle hKr.2
end Go.Proofs.YtfkcphbbabaefaaGreatDoor
