/- What the laws of the field lean on: the program's functions by their contracts; the laws' own helpers. -/
import Derived.Test.YtaefjbklioljnaaDoorE0
namespace Go.Proofs.YtaefjbklioljnaaDoor
open Go.RowKit
/-- The program's seven functions, by what they answer; T: what they want of memory. -/
structure Fld (T : World → Prop) : Prop where
  keep : ∀ w w', T w → Below w.heap.size w w' → T w'
  check : ∀ a, a < R256 → ∀ w, T w → Calls Tryd.prog 10 #[.agg (B32 (bdig a))] w fun x w' => x = .returned (.bool (decide (a < pp))) ∧ Below w.heap.size w w'
  mod : ∀ a, a < R256 → ∀ w, T w → Calls Tryd.prog 12 #[.agg (B32 (bdig a))] w fun x w' => x = .returned (.agg (B32 (bdig (a % pp)))) ∧ Below w.heap.size w w'
  add : ∀ a b, a < R256 → b < R256 → ∀ w, T w → Calls Tryd.prog 15 #[.agg (B32 (bdig a)), .agg (B32 (bdig b))] w fun x w' => x = .returned (.agg (B32 (bdig ((a + b) % pp)))) ∧ Below w.heap.size w w'
  sub : ∀ a b, a < R256 → b < R256 → ∀ w, T w → Calls Tryd.prog 17 #[.agg (B32 (bdig a)), .agg (B32 (bdig b))] w fun x w' => x = .returned (.agg (B32 (bdig ((a % pp + pp - b % pp) % pp)))) ∧ Below w.heap.size w w'
  mul : ∀ a b, a < R256 → b < R256 → ∀ w, T w → Calls Tryd.prog 19 #[.agg (B32 (bdig a)), .agg (B32 (bdig b))] w fun x w' => x = .returned (.agg (B32 (bdig (a * b % pp)))) ∧ Below w.heap.size w w'
theorem Fld.mulA {T : World → Prop} (F : Fld T) {a b c : Nat} (ha : a < R256) (hb : b < R256) (hc : a * b % pp = c) (w : World) (hT : T w) : Calls Tryd.prog 19 #[.agg (B32 (bdig a)), .agg (B32 (bdig b))] w fun x w' => x = .returned (.agg (B32 (bdig c))) ∧ Below w.heap.size w w' := by
  rw [← hc]; exact F.mul a b ha hb w hT
theorem Fld.modA {T : World → Prop} (F : Fld T) {a c : Nat} (ha : a < R256) (hc : a % pp = c) (w : World) (hT : T w) : Calls Tryd.prog 12 #[.agg (B32 (bdig a))] w fun x w' => x = .returned (.agg (B32 (bdig c))) ∧ Below w.heap.size w w' := by
  rw [← hc]; exact F.mod a ha w hT
theorem Fld.addA {T : World → Prop} (F : Fld T) {a b c : Nat} (ha : a < R256) (hb : b < R256) (hc : (a + b) % pp = c) (w : World) (hT : T w) : Calls Tryd.prog 15 #[.agg (B32 (bdig a)), .agg (B32 (bdig b))] w fun x w' => x = .returned (.agg (B32 (bdig c))) ∧ Below w.heap.size w w' := by
  rw [← hc]; exact F.add a b ha hb w hT
theorem Fld.subA {T : World → Prop} (F : Fld T) {a b c : Nat} (ha : a < R256) (hb : b < R256) (hc : (a % pp + pp - b % pp) % pp = c) (w : World) (hT : T w) : Calls Tryd.prog 17 #[.agg (B32 (bdig a)), .agg (B32 (bdig b))] w fun x w' => x = .returned (.agg (B32 (bdig c))) ∧ Below w.heap.size w w' := by
  rw [← hc]; exact F.sub a b ha hb w hT
theorem shr_num (n k : Nat) : (n : Int) / 2 ^ (8 * k) % 256 = ((bdig n k : Nat) : Int) := by
  unfold bdig
  rw [show (256 : Nat) ^ k = 2 ^ (8 * k) by rw [Nat.pow_mul], show (2 : Int) ^ (8 * k) = ((2 ^ (8 * k) : Nat) : Int) from (Int.natCast_pow 2 (8 * k)).symm]
  generalize 2 ^ (8 * k) = p
  rw [← Int.natCast_ediv]
  generalize n / p = q
  omega
theorem bdig_high {n k : Nat} (h : n < 9223372036854775808) (hk : 8 ≤ k) : bdig n k = 0 := by
  unfold bdig
  have : (256 : Nat) ^ 8 ≤ 256 ^ k := Nat.pow_le_pow_right (by decide) hk
  rw [Nat.div_eq_of_lt (by omega), Nat.zero_mod]

set_option maxRecDepth 100000 in
set_option maxHeartbeats 4000000 in
theorem num_any (n : Nat) (hn : n < 9223372036854775808) (w : World) : Calls Tryd.prog 24 #[.int .i64 (n : Int)] w fun x w' => x = .returned (.agg (B32 (bdig n))) ∧ Below w.heap.size w w' := by
  have hz := (zero_of_info zeroB32).1
  have hn0 : (0 : Int) ≤ (n : Int) := by omega
  go_enter Tryd.func24, Tryd.ntmps24
  go_wp2_with fail
  have hK0 := ((Kp.nil w).alloc (B32 fun _ => 0) 22).alloc (B32 fun _ => 0) 22
  rw [World.size_alloc] at hK0
  generalize (w.alloc (.cells (B32 fun _ => 0) 22)).alloc (.cells (B32 fun _ => 0) 22) = W at *
  obtain ⟨bR, HR⟩ : ∃ bR, Hid (w.heap.size = bR) := ⟨_, rfl⟩
  obtain ⟨bO, HO⟩ : ∃ bO, Hid (bR + 1 = bO) := ⟨_, rfl⟩
  have hle : w.heap.size ≤ bR := Nat.le_of_eq HR.out
  have hleO : w.heap.size ≤ bO := by have := HO.out; omega
  have n2 : bR ≠ bO := by have := HO.out; omega
  rw [HR.out, HO.out] at hK0 ⊢
  go_loopw [4] (fun ii wr => ∃ (k : Nat) (h : Nat → Nat), k ≤ 8 ∧ ii = .int .i64 (k : Int) ∧ (∀ j, j < k → h j = bdig n j) ∧ (∀ j, 8 ≤ j → h j = 0) ∧ Kp [(bO, B32 h, 22), (bR, B32 fun _ => 0, 22)] w wr) (fun ii _ => 8 - (intOf ii).toNat)
  case atStart => exact ⟨0, fun _ => 0, by omega, rfl, fun j hj => by omega, fun _ _ => rfl, hK0⟩
  case round =>
    obtain ⟨k, h, hk, rfl, hh, hhz, hKr⟩ := hrel
    have hk0 : (0 : Int) ≤ (k : Int) := by omega
    by_cases hlt : k < 8
    · have hki : (k : Int) < 8 := by omega
      have cO := (hKr.at bO (B32 h) 22 (by simp)).cell (B32_at h k (by omega))
      have fO := (hKr.at bO (B32 h) 22 (by simp)).frozen k
      have Hb := show Hid _ from shr_num n k
      have hm0 : (0 : Int) ≤ 8 * (k : Int) := by omega
      have hm1 : 8 * (k : Int) < 64 := by omega
      obtain ⟨v, Hv⟩ : ∃ v, Hid (bdig n k = v) := ⟨_, rfl⟩
      rw [Hv.out] at Hb
      go_wp2_with fail
      rw [Hb.out]
      have hK1 := Kp.setCell (i := k) (v := .int .u8 (v : Int)) hKr (by simp; omega) hleO
      rw [B32_set h k v (by omega)] at hK1
      refine ⟨⟨k + 1, upd h k v, by omega, by go_num, fun j hj => ?_, fun j hj => ?_, hK1⟩, by simp [intOf]; omega⟩
      · by_cases e : j = k
        · rw [e, upd_same]; exact Hv.out.symm
        · rw [upd_other _ _ _ _ e]; exact hh j (by omega)
      · rw [upd_other _ _ _ _ (by omega)]; exact hhz j hj
    · have hki : ¬ (k : Int) < 8 := by omega
      have He : Hid (B32 h = B32 (bdig n)) := B32_ext fun i hi => by
        by_cases h8 : i < 8
        · exact hh i (by omega)
        · rw [hhz i (by omega), bdig_high hn (by omega)]
      go_upto_region 6 with fail
      go_wp2_with (first
        | refine wpList_load_own (by rfl) 22 (.tmp 3) (by rfl) bO (by rfl) (B32 h) _ (hKr.at bO (B32 h) 22 (by simp)) Tryd.underlying22 (by rfl) (B32_info h) ?_
        | refine wpList_store_own (by rfl) 22 (.tmp 2) (.tmp 17) (by rfl) bR 0 (B32 h) (by rfl) (by rfl) (hKr.at bR (B32 fun _ => 0) 22 (by simp)) (B32_le _ _) (B32_info h) (B32_one h) (by rfl) ?_)
      refine bodyPost_ret (results_own Tryd.results24 _ _ bR (B32 h) _ (by rfl) (own_setCells (hKr.at bR (B32 fun _ => 0) 22 (by simp)) (B32_sizes _ _)) Tryd.underlying22 rfl (B32_info h)) rfl ⟨by rw [He.out], ?_⟩
      exact Below.setCells _ _ _ _ hle hKr.2

set_option maxRecDepth 100000 in
set_option maxHeartbeats 4000000 in
theorem wakes_any {T : World → Prop} (F : Fld T) (w : World) (hT : T w) : Calls Tryd.prog 21 #[] w fun x w' => x = .returned (.bool true) ∧ Below w.heap.size w w' := by
  have hz := (zero_of_info zeroB32).1
  obtain ⟨q, Hq⟩ : ∃ q, Hid ((0 % pp + pp - 1 % pp) % pp = q) := ⟨_, rfl⟩
  have e0 : bdig q 0 = 236 := by rw [← Hq.out]; decide +kernel
  have e1 : bdig q 1 = 255 := by rw [← Hq.out]; decide +kernel
  have e31 : bdig q 31 = 127 := by rw [← Hq.out]; decide +kernel
  have h6 : ∀ w, (Op.equalIn 10000 22 (.agg (B32 (bdig 6))) (.agg (B32 (bdig 6)))).run Tryd.prog w = .ok true w := B32_same 6 (by decide)
  go_enter Tryd.func21, Tryd.ntmps21
  go_wp2_with fail
  refine (num_any 0 (by decide) w).mono ?_
  rintro x w1 ⟨rfl, b1⟩
  go_wp2_with fail
  refine (num_any 1 (by decide) w1).mono ?_
  rintro x w2 ⟨rfl, b2⟩
  have b2 := bel b1 b2
  go_wp2_with fail
  refine (F.subA (by decide) (by decide) Hq.out w2 (F.keep _ _ hT b2)).mono ?_
  rintro x w3 ⟨rfl, b3⟩
  have b3 := bel b2 b3
  go_upto_region 2 with (refine wpList_store_new (by rfl) 22 (.tmp 1) (.tmp 4) (by rfl) _ (B32 (bdig q)) (by rfl) (by rfl) (B32_info _) (B32_sizes _ _) (B32_one _) (by rfl) ?_)
  have oQ := own_new w3 (B32 (bdig q)) 22
  have b4 := bel b3 (alloc_below w3 (.cells (B32 (bdig q)) 22))
  generalize w3.alloc (.cells (B32 (bdig q)) 22) = W at *
  generalize w3.heap.size = bQ at *
  go_wp2_with fail
  refine (num_any 2 (by decide) W).mono ?_
  rintro x w5 ⟨rfl, c5⟩
  have oQ := oQ.below c5 oQ.lt
  have b5 := bel b4 c5
  go_wp2_with fail
  refine (num_any 3 (by decide) w5).mono ?_
  rintro x w6 ⟨rfl, c6⟩
  have oQ := oQ.below c6 oQ.lt
  have b6 := bel b5 c6
  go_wp2_with fail
  refine (F.mulA (c := 6) (by decide) (by decide) (by decide) w6 (F.keep _ _ hT b6)).mono ?_
  rintro x w7 ⟨rfl, c7⟩
  have oQ := oQ.below c7 oQ.lt
  have b7 := bel b6 c7
  go_wp2_with fail
  refine (num_any 6 (by decide) w7).mono ?_
  rintro x w8 ⟨rfl, c8⟩
  have oQ := oQ.below c8 oQ.lt
  have b8 := bel b7 c8
  have k0 := oQ.cell (B32_at (bdig q) 0 (by omega))
  have k1 := oQ.cell (B32_at (bdig q) 1 (by omega))
  have k31 := oQ.cell (B32_at (bdig q) 31 (by omega))
  rw [e0] at k0
  rw [e1] at k1
  rw [e31] at k31
  clear e0 e1 e31 oQ
  go_wp2_with fail
  refine (num_any 5 (by decide) w8).mono ?_
  rintro x w9 ⟨rfl, c9⟩
  have b9 := bel b8 c9
  go_wp2_with fail
  refine (F.check 5 (by decide) w9 (F.keep _ _ hT b9)).mono ?_
  rintro x w10 ⟨rfl, c10⟩
  rw [show decide (5 < pp) = true from by decide]
  go_wp2
  go_ret
  exact ⟨rfl, bel b9 c10⟩
end Go.Proofs.YtaefjbklioljnaaDoor
