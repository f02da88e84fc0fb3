/- The walk of the page's half. -/
import Derived.Test.YtaefjbklioljnaaDoorE9
namespace Go.Proofs.YtaefjbklioljnaaDoor
open Go.RowKit
theorem dig_half (a k : Nat) : dig (a / 2) k = dig a k / 2 + dig a (k + 1) % 2 * 9223372036854775808 := by
  unfold dig
  rw [Nat.div_div_eq_div_mul, Nat.mul_comm 2, ← Nat.div_div_eq_div_mul, Nat.pow_succ, ← Nat.div_div_eq_div_mul]
  generalize a / 18446744073709551616 ^ k = x
  omega
theorem dig_top {a : Nat} (h : a < R256) : dig a 4 = 0 := by
  unfold dig
  rw [pow4, Nat.div_eq_of_lt h, Nat.zero_mod]
theorem or_join (x y : Nat) (hx : x < 18446744073709551616) : bits .or .u64 ((x / 2 : Nat) : Int) ((y % 2 * 9223372036854775808 : Nat) : Int) = ((x / 2 + y % 2 * 9223372036854775808 : Nat) : Int) := by
  rw [u64_or_nat _ _ (by omega) (by omega), Nat.or_comm, nat_join 63 (y % 2 * 9223372036854775808) (x / 2) (Nat.mul_mod_left _ _) (by omega), Nat.add_comm]
theorem shl63 (y : Nat) : IntKind.u64.wrap ((y : Int) * 9223372036854775808) = ((y % 2 * 9223372036854775808 : Nat) : Int) := by
  simp [IntKind.wrap, IntKind.bits, IntKind.signed]; omega

set_option maxRecDepth 100000 in
set_option maxHeartbeats 8000000 in
theorem half_any (a : Nat) (ha : a < R256) (w : World) : Calls Tryd.prog 42 #[.agg (numA a)] w fun x w' => x = .returned (.agg (numA (a / 2))) ∧ Below w.heap.size w w' := by
  have hz := (zero_of_info zeroNum).1
  go_enter Tryd.func42, Tryd.ntmps42
  go_wp2_with fail
  have hK0 := (((Kp.nil w).alloc (numA a) 25).alloc (A4 fun _ => 0) 25).alloc (A4 fun _ => 0) 25
  rw [World.size_alloc, World.size_alloc] at hK0
  generalize ((w.alloc (.cells (numA a) 25)).alloc (.cells (A4 fun _ => 0) 25)).alloc (.cells (A4 fun _ => 0) 25) = W at *
  obtain ⟨bA, HA⟩ : ∃ bA, Hid (w.heap.size = bA) := ⟨_, rfl⟩
  obtain ⟨bR, HR⟩ : ∃ bR, Hid (bA + 1 = bR) := ⟨_, rfl⟩
  obtain ⟨bO, HO⟩ : ∃ bO, Hid (bR + 1 = bO) := ⟨_, rfl⟩
  have hle : w.heap.size ≤ bR := by have := HA.out; have := HR.out; omega
  have hleO : w.heap.size ≤ bO := by have := HO.out; omega
  have n1 : bA ≠ bO := by have := HR.out; have := HO.out; omega
  have n2 : bR ≠ bO := by have := HO.out; omega
  rw [HA.out, HR.out, HO.out] at hK0 ⊢
  go_loopw [4] (fun ii wr => ∃ (k : Nat) (h : Nat → Nat), k ≤ 4 ∧ ii = .int .i64 (k : Int) ∧ (∀ j, j < k → h j = dig (a / 2) j) ∧ Kp [(bO, A4 h, 25), (bR, A4 fun _ => 0, 25), (bA, numA a, 25)] w wr) (fun ii _ => 4 - (intOf ii).toNat)
  case atStart => exact ⟨0, fun _ => 0, by omega, rfl, fun j hj => by omega, hK0⟩
  case round =>
    obtain ⟨k, h, hk, rfl, hh, hKr⟩ := hrel
    have hk0 : (0 : Int) ≤ (k : Int) := by omega
    by_cases hlt : k < 4
    · have hki : (k : Int) < 4 := by omega
      have cA := (hKr.at bA (numA a) 25 (by simp)).cell (numA_at a k hlt)
      have cO := (hKr.at bO (A4 h) 25 (by simp)).cell (A4_at h k hlt)
      have fO := (hKr.at bO (A4 h) 25 (by simp)).frozen k
      have hd := dig_lt a k
      have hdv : ((dig a k : Nat) : Int) / 2 = ((dig a k / 2 : Nat) : Int) := by omega
      have Hst := show Hid _ from dig_half a k
      have hK1 := Kp.setCell (i := k) (v := .int .u64 ((dig a k / 2 : Nat) : Int)) hKr (by simp; omega) hleO
      rw [A4_set h k _ hlt] at hK1
      by_cases h3 : k < 3
      · have hk3 : (k : Int) < 3 := by omega
        have cA1 := (hK1.at bA (numA a) 25 (by simp)).cell (numA_at a (k + 1) (by omega))
        have cO1 := (hK1.at bO (A4 (upd h k (dig a k / 2))) 25 (by simp)).cell (A4_at _ k hlt)
        rw [upd_same] at cO1
        have fO1 := (hK1.at bO (A4 (upd h k (dig a k / 2))) 25 (by simp)).frozen k
        have hs := shl63 (dig a (k + 1))
        have hor := or_join (dig a k) (dig a (k + 1)) hd
        have hk1 : (k : Int) + 1 < 4 := by omega
        have hk10 : (0 : Int) ≤ (k : Int) + 1 := by omega
        have hkt : ((k : Int) + 1).toNat = k + 1 := by omega
        generalize dig a (k + 1) = d1 at *
        generalize dig a k = d at *
        rw [← Hst.out] at hor
        generalize hE : dig (a / 2) k = E at hor
        have HEE := show Hid _ from hE
        clear hE
        generalize d1 % 2 * 9223372036854775808 = sh at *
        generalize d / 2 = dh at *
        go_upto_region 7 with fail
        generalize hW2 : wr.setCell ⟨bO, k, none⟩ (.int .u64 (dh : Int)) = W2 at *
        clear hW2
        go_region
        go_wp2_with fail
        have hK2 := Kp.setCell (i := k) (v := .int .u64 (E : Int)) hK1 (by simp; omega) hleO
        rw [A4_set _ k _ hlt] at hK2
        refine ⟨⟨k + 1, upd (upd h k dh) k E, by omega, by go_num, fun j hj => ?_, hK2.below ((Below.refl _ _).drew)⟩, by simp [intOf]; omega⟩
        by_cases e : j = k
        · rw [e, upd_same]; exact HEE.out.symm
        · rw [upd_other _ _ _ _ e, upd_other _ _ _ _ e]; exact hh j (by omega)
      · have hk3 : ¬ (k : Int) < 3 := by omega
        have Ht : Hid (dig (a / 2) k = dig a k / 2) := by
          show _ = _
          have hk3' : k = 3 := by omega
          rw [Hst.out, hk3', dig_top ha, Nat.zero_mod, Nat.zero_mul, Nat.add_zero]
        clear Hst
        generalize dig a k / 2 = dh at *
        generalize dig a k = d at *
        go_wp2_with fail
        refine ⟨⟨k + 1, upd h k dh, by omega, by go_num, fun j hj => ?_, hK1⟩, by simp [intOf]; omega⟩
        by_cases e : j = k
        · rw [e, upd_same]; exact Ht.out.symm
        · rw [upd_other _ _ _ _ e]; exact hh j (by omega)
    · have hki : ¬ (k : Int) < 4 := by omega
      have He : Hid (A4 h = numA (a / 2)) := A4_congr fun i hi => hh i (by omega)
      have hinf : (Tryd.prog.info? 25).map (·.size) = some (A4 h).size := infoNum
      go_upto_region 8 with fail
      go_wp2_with (first
        | refine wpList_load_own (by rfl) 25 (.tmp 3) (by rfl) bO (by rfl) (A4 h) _ (hKr.at bO (A4 h) 25 (by simp)) Tryd.underlying25 (by rfl) hinf ?_
        | refine wpList_store_own (by rfl) 25 (.tmp 2) (.tmp 27) (by rfl) bR 0 (A4 h) (by rfl) (by rfl) (hKr.at bR (A4 fun _ => 0) 25 (by simp)) (Nat.le_refl _) hinf (A4_one h) (by rfl) ?_)
      refine bodyPost_ret (results_own Tryd.results42 _ _ bR (A4 h) _ (by rfl) (own_setCells (hKr.at bR (A4 fun _ => 0) 25 (by simp)) rfl) Tryd.underlying25 rfl hinf) rfl ⟨by rw [He.out], ?_⟩
      exact Below.setCells _ _ _ _ hle hKr.2
end Go.Proofs.YtaefjbklioljnaaDoor
