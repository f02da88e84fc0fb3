/- The walk of the page's turning of a number into bytes. -/
import Derived.Test.YtofoihebhdpjlaaDoorE3I
namespace Go.Proofs.YtofoihebhdpjlaaDoor
open Go.RowKit
set_option maxRecDepth 100000 in
set_option maxHeartbeats 8000000 in
theorem bytesOf_any (n : Nat) (w : World) : Calls Tryd.prog 18 #[.agg (numA n)] w fun x w' => x = .returned (.agg (B32 (bdig n))) ∧ Below w.heap.size w w' := by
  have hz := (zero_of_info zeroB32).1
  go_enter Tryd.func18, Tryd.ntmps18
  go_wp2_with fail
  have hK0 := (((Kp.nil w).alloc (numA n) 36).alloc (B32 fun _ => 0) 22).alloc (B32 fun _ => 0) 22
  rw [World.size_alloc, World.size_alloc] at hK0
  generalize ((w.alloc (.cells (numA n) 36)).alloc (.cells (B32 fun _ => 0) 22)).alloc (.cells (B32 fun _ => 0) 22) = W at *
  obtain ⟨bA, HA⟩ : ∃ bA, Hid (w.heap.size = bA) := ⟨_, rfl⟩
  obtain ⟨bR, HR⟩ : ∃ bR, Hid (bA + 1 = bR) := ⟨_, rfl⟩
  obtain ⟨bO, HO⟩ : ∃ bO, Hid (bR + 1 = bO) := ⟨_, rfl⟩
  have hle : w.heap.size ≤ bR := by have := HA.out; have := HR.out; omega
  have hleO : w.heap.size ≤ bO := by have := HO.out; omega
  have n1 : bA ≠ bO := by have := HR.out; have := HO.out; omega
  have n2 : bR ≠ bO := by have := HO.out; omega
  rw [HA.out, HR.out, HO.out] at hK0 ⊢
  go_loopw [4] (fun ii wr => ∃ (k : Nat) (h : Nat → Nat), k ≤ 32 ∧ ii = .int .i64 (k : Int) ∧ (∀ j, j < k → h j = bdig n j) ∧ Kp [(bO, B32 h, 22), (bR, B32 fun _ => 0, 22), (bA, numA n, 36)] w wr) (fun ii _ => 32 - (intOf ii).toNat)
  case atStart => exact ⟨0, fun _ => 0, by omega, rfl, fun j hj => by omega, hK0⟩
  case round =>
    obtain ⟨k, h, hk, rfl, hh, hKr⟩ := hrel
    have hk0 : (0 : Int) ≤ (k : Int) := by omega
    by_cases hlt : k < 32
    · have hki : (k : Int) < 32 := by omega
      have hd4 : k / 8 < 4 := by omega
      have cA := (hKr.at bA (numA n) 36 (by simp)).cell (numA_at n (k / 8) hd4)
      have cO := (hKr.at bO (B32 h) 22 (by simp)).cell (B32_at h k hlt)
      have fO := (hKr.at bO (B32 h) 22 (by simp)).frozen k
      have hdv : (k : Int).tdiv 8 = ((k / 8 : Nat) : Int) := by rw [Int.tdiv_eq_ediv_of_nonneg (by omega)]; omega
      have hmd : (k : Int).tmod 8 = ((k % 8 : Nat) : Int) := by rw [Int.tmod_eq_emod_of_nonneg (by omega)]; omega
      have hd40 : (0 : Int) ≤ ((k / 8 : Nat) : Int) := by omega
      have hd41 : ((k / 8 : Nat) : Int) < 4 := by omega
      have hm0 : (0 : Int) ≤ 8 * ((k % 8 : Nat) : Int) := by omega
      have hm1 : 8 * ((k % 8 : Nat) : Int) < 64 := by omega
      have hm2 : ((k % 8 : Nat) : Int) < 8 := by omega
      have hm3 : (0 : Int) ≤ ((k % 8 : Nat) : Int) := by omega
      have hb := byte_of n k
      have hb' : (dig n (k / 8) : Int) / 2 ^ (8 * (k % 8)) % 256 = ((bdig n k : Nat) : Int) := by
        rw [← hb]; push_cast; rfl
      have Hb := show Hid _ from hb'
      clear hb hb'
      obtain ⟨v, Hv⟩ : ∃ v, Hid (bdig n k = v) := ⟨_, rfl⟩
      rw [Hv.out] at Hb
      generalize dig n (k / 8) = d at *
      generalize k / 8 = D at *
      generalize k % 8 = M at *
      go_wp2_with fail
      rw [Hb.out]
      have hK1 := Kp.setCell (i := k) (v := .int .u8 (v : Int)) hKr (by simp; omega) hleO
      rw [B32_set h k v hlt] at hK1
      refine ⟨⟨k + 1, upd h k v, by omega, by go_num, fun j hj => ?_, hK1⟩, by simp [intOf]; omega⟩
      by_cases e : j = k
      · rw [e, upd_same]; exact Hv.out.symm
      · rw [upd_other _ _ _ _ e]; exact hh j (by omega)
    · have hki : ¬ (k : Int) < 32 := by omega
      have He : Hid (B32 h = B32 (bdig n)) := B32_ext fun i hi => hh i (by omega)
      go_upto_region 6 with fail
      go_wp2_with (first
        | refine wpList_load_own (by rfl) 22 (.tmp 3) (by rfl) bO (by rfl) (B32 h) _ (hKr.at bO (B32 h) 22 (by simp)) Tryd.underlying22 (by rfl) (B32_info h) ?_
        | refine wpList_store_own (by rfl) 22 (.tmp 2) (.tmp 21) (by rfl) bR 0 (B32 h) (by rfl) (by rfl) (hKr.at bR (B32 fun _ => 0) 22 (by simp)) (by rw [B32_size, B32_size]; exact Nat.le_refl _) (B32_info h) (B32_one h) (by rfl) ?_)
      refine bodyPost_ret (results_own Tryd.results18 _ _ bR (B32 h) _ (by rfl) (own_setCells (hKr.at bR (B32 fun _ => 0) 22 (by simp)) (by rw [B32_size, B32_size])) Tryd.underlying22 rfl (B32_info h)) rfl ⟨by rw [He.out], ?_⟩
      exact Below.setCells _ _ _ _ hle hKr.2
end Go.Proofs.YtofoihebhdpjlaaDoor
