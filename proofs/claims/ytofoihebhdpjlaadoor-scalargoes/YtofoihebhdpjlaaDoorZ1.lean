/- Steps and words of the program's scalars; a number's bytes. -/
import Derived.Test.YtofoihebhdpjlaaDoorZ0
namespace Go.Proofs.YtofoihebhdpjlaaDoor
open Go.RowKit
theorem infoSN : (Tryd.prog.info? 50).map (·.size) = some 4 := by kernel_rfl
theorem zeroSN : (Tryd.prog.info? 50).map (fun i => (i.zero, i.size)) = some (some (.agg (A4 fun _ => 0)), 4) := by kernel_rfl
theorem sn_info (n : Nat) : (Tryd.prog.info? 50).map (·.size) = some (numA n).size := infoSN
set_option maxRecDepth 100000 in
set_option maxHeartbeats 4000000 in
/-- Two words' product and two words more. -/
theorem step_any (x y e k : Nat) (hx : x < 18446744073709551616) (hy : y < 18446744073709551616) (he : e < 18446744073709551616) (hk : k < 18446744073709551616) (w : World) :
    Calls Tryd.prog 27 #[.int .u64 (x : Int), .int .u64 (y : Int), .int .u64 (e : Int), .int .u64 (k : Int)] w fun r w' => (∃ l h : Nat, r = .returned (.tuple #[.int .u64 (l : Int), .int .u64 (h : Int)]) ∧ l < 18446744073709551616 ∧ h < 18446744073709551616 ∧ x * y + e + k = l + 18446744073709551616 * h) ∧ w' = w := by
  have hxy := word_mul x y hx hy
  go_enter Tryd.func27, Tryd.ntmps27
  go_wp2_with fail
  refine (mul64_any x y hx hy w).mono ?_
  rintro r w1 ⟨⟨h, l, rfl, hh, hl, hp⟩, rfl⟩
  obtain ⟨l1, c1, r1, hl1, hc1, e1⟩ := add64_any l e 0 hl he (by omega)
  obtain ⟨l2, c2, r2, hl2, hc2, e2⟩ := add64_any l1 k 0 hl1 hk (by omega)
  have r1 : ∀ w, (callFunc 29 #[.int .u64 (l : Int), .int .u64 (e : Int), .int .u64 0]).run Tryd.prog w = .ok (.value (.tuple #[.int .u64 (l1 : Int), .int .u64 (c1 : Int)])) w := r1
  have r2 : ∀ w, (callFunc 29 #[.int .u64 (l1 : Int), .int .u64 (k : Int), .int .u64 0]).run Tryd.prog w = .ok (.value (.tuple #[.int .u64 (l2 : Int), .int .u64 (c2 : Int)])) w := r2
  obtain ⟨p, Hx⟩ : ∃ p, Hid (x * y = p) := ⟨_, rfl⟩
  rw [Hx.out] at hp hxy
  have hw1 : IntKind.u64.wrap ((h : Int) + (c1 : Int)) = ((h + c1 : Nat) : Int) := by
    rw [show (h : Int) + (c1 : Int) = ((h + c1 : Nat) : Int) by omega]; exact wrap_small _ (by omega)
  have hw2 : IntKind.u64.wrap (((h + c1 : Nat) : Int) + (c2 : Int)) = ((h + c1 + c2 : Nat) : Int) := by
    rw [show ((h + c1 : Nat) : Int) + (c2 : Int) = ((h + c1 + c2 : Nat) : Int) by omega]; exact wrap_small _ (by omega)
  have Hend : Hid (p + e + k = l2 + 18446744073709551616 * (h + c1 + c2)) := by show _ = _; omega
  have hlt : h + c1 + c2 < 18446744073709551616 := by omega
  clear hp e1 e2 hxy
  generalize h + c1 + c2 = h2 at *
  generalize h + c1 = h1 at *
  go_wp2_with fail
  exact bodyPost_ret (results_tmp2 Tryd.results27 _ _ _) rfl ⟨⟨l2, h2, rfl, hl2, hlt, by rw [Hx.out]; exact Hend.out⟩, rfl⟩


set_option maxRecDepth 100000 in
set_option maxHeartbeats 4000000 in
/-- A word of eight bytes. -/
theorem word_any (f : Nat → Nat) (b o cap : Nat) (hf : ∀ i, i < 8 → f i < 256) (w : World) (hcell : ∀ i, i < 8 → w.cell? ⟨b, o + i, none⟩ = some (.int .u8 (f i : Int))) :
    Calls Tryd.prog 23 #[.slice (some ⟨b, o, none⟩) 8 cap] w fun x w' => x = .returned (.int .u64 (vb f 8 : Int)) ∧ w' = w := by
  go_enter Tryd.func23, Tryd.ntmps23
  go_wp2_with fail
  go_loopw [8, 3] (fun ii vv wr => ∃ (k x : Nat), k ≤ 8 ∧ ii = .int .i64 (k : Int) ∧ vv = .int .u64 (x : Int) ∧ x < 256 ^ k ∧ Hid (vb f k = x) ∧ wr = w) (fun ii _ _ => 8 - (intOf ii).toNat)
  case atStart => exact ⟨0, 0, by omega, rfl, rfl, by decide, rfl, rfl⟩
  case round =>
    obtain ⟨k, x, hk, rfl, rfl, hx, Hx, rfl⟩ := hrel
    have hk0 : (0 : Int) ≤ (k : Int) := by omega
    by_cases hlt : k < 8
    · have hki : (k : Int) < 8 := by omega
      have cA := hcell k hlt
      have hc := hf k hlt
      have hm0 : (0 : Int) ≤ 8 * (k : Int) := by omega
      have hm1 : 8 * (k : Int) < 64 := by omega
      have hs := shl_word hlt hc
      have hor := or_word hlt hx hc
      have Hnew : Hid (x + f k * 256 ^ k < 256 ^ (k + 1) ∧ vb f (k + 1) = x + f k * 256 ^ k) := by
        have e : vb f (k + 1) = x + f k * 256 ^ k := by rw [vb, Hx.out]
        exact ⟨by rw [← e]; exact vb_lt f (k + 1) fun i hi => hf i (by omega), e⟩
      have hc0 : (0 : Int) ≤ ((f k : Nat) : Int) := by omega
      have hc1 : ((f k : Nat) : Int) < 256 := by omega
      generalize x + f k * 256 ^ k = x' at *
      generalize f k * 256 ^ k = u at *
      generalize hCC : f k = c at cA hs hc0 hc1
      clear hCC hcell hf
      go_wp2_with fail
      exact ⟨⟨k + 1, x', by omega, by go_num, rfl, Hnew.out.1, Hnew.out.2, by trivial⟩, by simp [intOf]; omega⟩
    · have hki : ¬ (k : Int) < 8 := by omega
      have He : Hid (vb f 8 = x) := by
        show _ = _
        rw [← Hx.out, show k = 8 by omega]
      go_wp2_with fail
      go_ret
      exact ⟨by rw [He.out]; rfl, rfl⟩
set_option maxRecDepth 100000 in
set_option maxHeartbeats 8000000 in
/-- A number's bytes. -/
theorem write_any (n : Nat) (w : World) : Calls Tryd.prog 24 #[.agg (numA n)] w fun x w' => x = .returned (.agg (B32 (bdig n))) ∧ Below w.heap.size w w' := by
  have hz := (zero_of_info zeroB32).1
  go_enter Tryd.func24, Tryd.ntmps24
  go_wp2_with fail
  have hK0 := (((Kp.nil w).alloc (numA n) 50).alloc (B32 fun _ => 0) 22).alloc (B32 fun _ => 0) 22
  rw [World.size_alloc, World.size_alloc] at hK0
  generalize ((w.alloc (.cells (numA n) 50)).alloc (.cells (B32 fun _ => 0) 22)).alloc (.cells (B32 fun _ => 0) 22) = W at *
  obtain ⟨bA, HA⟩ : ∃ bA, Hid (w.heap.size = bA) := ⟨_, rfl⟩
  obtain ⟨bR, HR⟩ : ∃ bR, Hid (bA + 1 = bR) := ⟨_, rfl⟩
  obtain ⟨bO, HO⟩ : ∃ bO, Hid (bR + 1 = bO) := ⟨_, rfl⟩
  have hle : w.heap.size ≤ bR := by have := HA.out; have := HR.out; omega
  have hleO : w.heap.size ≤ bO := by have := HO.out; omega
  have n1 : bA ≠ bO := by have := HR.out; have := HO.out; omega
  have n2 : bR ≠ bO := by have := HO.out; omega
  rw [HA.out, HR.out, HO.out] at hK0 ⊢
  go_loopw [5] (fun ii wr => ∃ (k : Nat) (h : Nat → Nat), k ≤ 32 ∧ ii = .int .i64 (k : Int) ∧ (∀ j, j < k → h j = bdig n j) ∧ Kp [(bO, B32 h, 22), (bR, B32 fun _ => 0, 22), (bA, numA n, 50)] w wr) (fun ii _ => 32 - (intOf ii).toNat)
  case atStart => exact ⟨0, fun _ => 0, by omega, rfl, fun j hj => by omega, hK0⟩
  case round =>
    obtain ⟨k, h, hk, rfl, hh, hKr⟩ := hrel
    have hk0 : (0 : Int) ≤ (k : Int) := by omega
    by_cases hlt : k < 32
    · have hki : (k : Int) < 32 := by omega
      have hd4 : k / 8 < 4 := by omega
      have cA := (hKr.at bA (numA n) 50 (by simp)).cell (numA_at n (k / 8) hd4)
      have cO := (hKr.at bO (B32 h) 22 (by simp)).cell (B32_at h k hlt)
      have fO := (hKr.at bO (B32 h) 22 (by simp)).frozen k
      have hdv : (k : Int).tdiv 8 = ((k / 8 : Nat) : Int) := by rw [Int.tdiv_eq_ediv_of_nonneg (by omega)]; omega
      have hmd : (k : Int).tmod 8 = ((k % 8 : Nat) : Int) := by rw [Int.tmod_eq_emod_of_nonneg (by omega)]; omega
      have hd40 : (0 : Int) ≤ ((k / 8 : Nat) : Int) := by omega
      have hd41 : ((k / 8 : Nat) : Int) < 4 := by omega
      have hm0 : (0 : Int) ≤ ((k % 8 : Nat) : Int) * 8 := by omega
      have hm1 : ((k % 8 : Nat) : Int) * 8 < 64 := by omega
      have hm2 : ((k % 8 : Nat) : Int) < 8 := by omega
      have hm3 : (0 : Int) ≤ ((k % 8 : Nat) : Int) := by omega
      have hb := byte_of n k
      have hb' : (dig n (k / 8) : Int) / 2 ^ (k % 8 * 8) % 256 = ((bdig n k : Nat) : Int) := by
        rw [← hb, Nat.mul_comm]; push_cast; rfl
      have Hb := show Hid _ from hb'
      clear hb hb'
      obtain ⟨v, Hv⟩ : ∃ v, Hid (bdig n k = v) := ⟨_, rfl⟩
      rw [Hv.out] at Hb
      generalize dig n (k / 8) = d at *
      generalize k / 8 = D at *
      generalize k % 8 = M at *
      go_wp2_with fail
      rw [Hb.out]
      have hK1 := Kp.setCell (i := k) (v := .int .u8 (v : Int)) hKr (by simp; omega) hleO
      rw [B32_set h k v hlt] at hK1
      refine ⟨⟨k + 1, upd h k v, by omega, by go_num, fun j hj => ?_, hK1⟩, by simp [intOf]; omega⟩
      by_cases e : j = k
      · rw [e, upd_same]; exact Hv.out.symm
      · rw [upd_other _ _ _ _ e]; exact hh j (by omega)
    · have hki : ¬ (k : Int) < 32 := by omega
      have He : Hid (B32 h = B32 (bdig n)) := B32_ext fun i hi => hh i (by omega)
      go_upto_region 7 with fail
      go_wp2_with (first
        | refine wpList_load_own (by rfl) 22 (.tmp 3) (by rfl) bO (by rfl) (B32 h) _ (hKr.at bO (B32 h) 22 (by simp)) Tryd.underlying22 (by rfl) (B32_info h) ?_
        | refine wpList_store_own (by rfl) 22 (.tmp 2) (.tmp 20) (by rfl) bR 0 (B32 h) (by rfl) (by rfl) (hKr.at bR (B32 fun _ => 0) 22 (by simp)) (by rw [B32_size, B32_size]; exact Nat.le_refl _) (B32_info h) (B32_one h) (by rfl) ?_)
      refine bodyPost_ret (results_own Tryd.results24 _ _ bR (B32 h) _ (by rfl) (own_setCells (hKr.at bR (B32 fun _ => 0) 22 (by simp)) (by rw [B32_size, B32_size])) Tryd.underlying22 rfl (B32_info h)) rfl ⟨by rw [He.out], ?_⟩
      exact Below.setCells _ _ _ _ hle hKr.2
end Go.Proofs.YtofoihebhdpjlaaDoor
