/- The laws' own numbers. -/
import Derived.Test.YtofoihebhdpjlaaDoorE0
namespace Go.Proofs.YtofoihebhdpjlaaDoor
open Go.RowKit
theorem shr_num (n k : Nat) : (n : Int) / 2 ^ (8 * k) % 256 = ((bdig n k : Nat) : Int) := by
  unfold bdig
  rw [show (256 : Nat) ^ k = 2 ^ (8 * k) by rw [Nat.pow_mul], show (2 : Int) ^ (8 * k) = ((2 ^ (8 * k) : Nat) : Int) from (Int.natCast_pow 2 (8 * k)).symm]
  generalize 2 ^ (8 * k) = p
  rw [← Int.natCast_ediv]
  generalize n / p = q
  omega
theorem bdig_high {n k : Nat} (h : n < 9223372036854775808) (hk : 8 ≤ k) : bdig n k = 0 := by
  unfold bdig
  have : (256 : Nat) ^ 8 ≤ 256 ^ k := Nat.pow_le_pow_right (by decide) hk
  rw [Nat.div_eq_of_lt (by omega), Nat.zero_mod]

set_option maxRecDepth 100000 in
set_option maxHeartbeats 4000000 in
theorem num_any (n : Nat) (hn : n < 9223372036854775808) (w : World) : Calls Tryd.prog 17 #[.int .i64 (n : Int)] w fun x w' => x = .returned (.agg (B32 (bdig n))) ∧ Below w.heap.size w w' := by
  have hz := (zero_of_info zeroB32).1
  have hn0 : (0 : Int) ≤ (n : Int) := by omega
  go_enter Tryd.func17, Tryd.ntmps17
  go_wp2_with fail
  have hK0 := ((Kp.nil w).alloc (B32 fun _ => 0) 22).alloc (B32 fun _ => 0) 22
  rw [World.size_alloc] at hK0
  generalize (w.alloc (.cells (B32 fun _ => 0) 22)).alloc (.cells (B32 fun _ => 0) 22) = W at *
  obtain ⟨bR, HR⟩ : ∃ bR, Hid (w.heap.size = bR) := ⟨_, rfl⟩
  obtain ⟨bO, HO⟩ : ∃ bO, Hid (bR + 1 = bO) := ⟨_, rfl⟩
  have hle : w.heap.size ≤ bR := Nat.le_of_eq HR.out
  have hleO : w.heap.size ≤ bO := by have := HO.out; omega
  have n2 : bR ≠ bO := by have := HO.out; omega
  rw [HR.out, HO.out] at hK0 ⊢
  go_loopw [4] (fun ii wr => ∃ (k : Nat) (h : Nat → Nat), k ≤ 8 ∧ ii = .int .i64 (k : Int) ∧ (∀ j, j < k → h j = bdig n j) ∧ (∀ j, 8 ≤ j → h j = 0) ∧ Kp [(bO, B32 h, 22), (bR, B32 fun _ => 0, 22)] w wr) (fun ii _ => 8 - (intOf ii).toNat)
  case atStart => exact ⟨0, fun _ => 0, by omega, rfl, fun j hj => by omega, fun _ _ => rfl, hK0⟩
  case round =>
    obtain ⟨k, h, hk, rfl, hh, hhz, hKr⟩ := hrel
    have hk0 : (0 : Int) ≤ (k : Int) := by omega
    by_cases hlt : k < 8
    · have hki : (k : Int) < 8 := by omega
      have cO := (hKr.at bO (B32 h) 22 (by simp)).cell (B32_at h k (by omega))
      have fO := (hKr.at bO (B32 h) 22 (by simp)).frozen k
      have Hb := show Hid _ from shr_num n k
      have hm0 : (0 : Int) ≤ 8 * (k : Int) := by omega
      have hm1 : 8 * (k : Int) < 64 := by omega
      obtain ⟨v, Hv⟩ : ∃ v, Hid (bdig n k = v) := ⟨_, rfl⟩
      rw [Hv.out] at Hb
      go_wp2_with fail
      rw [Hb.out]
      have hK1 := Kp.setCell (i := k) (v := .int .u8 (v : Int)) hKr (by simp; omega) hleO
      rw [B32_set h k v (by omega)] at hK1
      refine ⟨⟨k + 1, upd h k v, by omega, by go_num, fun j hj => ?_, fun j hj => ?_, hK1⟩, by simp [intOf]; omega⟩
      · by_cases e : j = k
        · rw [e, upd_same]; exact Hv.out.symm
        · rw [upd_other _ _ _ _ e]; exact hh j (by omega)
      · rw [upd_other _ _ _ _ (by omega)]; exact hhz j hj
    · have hki : ¬ (k : Int) < 8 := by omega
      have He : Hid (B32 h = B32 (bdig n)) := B32_ext fun i hi => by
        by_cases h8 : i < 8
        · exact hh i (by omega)
        · rw [hhz i (by omega), bdig_high hn (by omega)]
      go_upto_region 6 with fail
      go_wp2_with (first
        | refine wpList_load_own (by rfl) 22 (.tmp 3) (by rfl) bO (by rfl) (B32 h) _ (hKr.at bO (B32 h) 22 (by simp)) Tryd.underlying22 (by rfl) (B32_info h) ?_
        | refine wpList_store_own (by rfl) 22 (.tmp 2) (.tmp 17) (by rfl) bR 0 (B32 h) (by rfl) (by rfl) (hKr.at bR (B32 fun _ => 0) 22 (by simp)) (B32_le _ _) (B32_info h) (B32_one h) (by rfl) ?_)
      refine bodyPost_ret (results_own Tryd.results17 _ _ bR (B32 h) _ (by rfl) (own_setCells (hKr.at bR (B32 fun _ => 0) 22 (by simp)) (B32_sizes _ _)) Tryd.underlying22 rfl (B32_info h)) rfl ⟨by rw [He.out], ?_⟩
      exact Below.setCells _ _ _ _ hle hKr.2

end Go.Proofs.YtofoihebhdpjlaaDoor
