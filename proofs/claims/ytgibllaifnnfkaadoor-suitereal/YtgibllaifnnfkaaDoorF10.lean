/- Powers of the program's numbers, and the inverse. -/
import Derived.Test.YtgibllaifnnfkaaDoorF9
import Derived.Test.YtgibllaifnnfkaaDoorRG
namespace Go.Proofs.YtgibllaifnnfkaaDoor
open Go.RowKit
/-- Squared so many times. -/
def tsq (n : Nat) : Nat → Nat
  | 0 => n
  | k + 1 => tmul (tsq n k) (tsq n k)
theorem tsq_lt {n : Nat} (hn : n < R256) : ∀ k, tsq n k < R256
  | 0 => hn
  | k + 1 => tmul_lt (tsq_lt hn k) (tsq_lt hn k)
/-- The power of as many ones. -/
def tones (n c : Nat) : Nat :=
  if c ≤ 1 then n else
  if c % 2 = 1 then tmul (tsq (tmul (tsq (tones n (c / 2)) (c / 2)) (tones n (c / 2))) 1) n else tmul (tsq (tones n (c / 2)) (c / 2)) (tones n (c / 2))
termination_by c
decreasing_by all_goals omega
theorem tones_one {n c : Nat} (h : c ≤ 1) : tones n c = n := by rw [tones, if_pos h]
theorem tones_odd {n c h x : Nat} (h1 : ¬ c ≤ 1) (h2 : c % 2 = 1) (hh : c / 2 = h) (hx : tones n h = x) : tones n c = tmul (tsq (tmul (tsq x h) x) 1) n := by rw [tones, if_neg h1, if_pos h2, hh, hx]
theorem tones_even {n c h x : Nat} (h1 : ¬ c ≤ 1) (h2 : ¬ c % 2 = 1) (hh : c / 2 = h) (hx : tones n h = x) : tones n c = tmul (tsq x h) x := by rw [tones, if_neg h1, if_neg h2, hh, hx]
theorem tones_lt {n : Nat} (hn : n < R256) (c : Nat) : tones n c < R256 := by
  induction c using Nat.strongRecOn with
  | _ c ih =>
    by_cases h1 : c ≤ 1
    · rw [tones_one h1]; exact hn
    · have hx := ih (c / 2) (by omega)
      by_cases h2 : c % 2 = 1
      · rw [tones_odd h1 h2 rfl rfl]; exact tmul_lt (tsq_lt (tmul_lt (tsq_lt hx _) hx) _) hn
      · rw [tones_even h1 h2 rfl rfl]; exact tmul_lt (tsq_lt hx _) hx
/-- x is as much as the power i of n. -/
def PM (n i x : Nat) : Prop := x % pp = n ^ i % pp
theorem PM.one (n : Nat) : PM n 1 n := by unfold PM; rw [Nat.pow_one]
theorem PM.mul {n i j x y : Nat} (hx : PM n i x) (hy : PM n j y) : PM n (i + j) (tmul x y) := by
  unfold PM at *
  rw [tmul_mod, Nat.mul_mod, hx, hy, ← Nat.mul_mod, Nat.pow_add]
theorem PM.sq {n i x : Nat} (hx : PM n i x) : ∀ k, PM n (i * 2 ^ k) (tsq x k)
  | 0 => by rw [Nat.pow_zero, Nat.mul_one]; exact hx
  | k + 1 => by
    have h := PM.mul (PM.sq hx k) (PM.sq hx k)
    rw [Nat.pow_succ, ← Nat.mul_assoc, Nat.mul_two]
    exact h
theorem ones_exp (h : Nat) : (2 ^ h - 1) * 2 ^ h + (2 ^ h - 1) = 2 ^ (2 * h) - 1 := by
  have h1 : 0 < 2 ^ h := Nat.pow_pos (by decide)
  obtain ⟨q, hq⟩ : ∃ q, 2 ^ h = q + 1 := ⟨2 ^ h - 1, by omega⟩
  rw [Nat.two_mul, Nat.pow_add, hq, Nat.add_sub_cancel, Nat.add_mul, Nat.mul_add, Nat.mul_add]
  omega
theorem tones_pow (n c : Nat) (hc : 1 ≤ c) : PM n (2 ^ c - 1) (tones n c) := by
  induction c using Nat.strongRecOn with
  | _ c ih =>
    by_cases h1 : c ≤ 1
    · rw [tones_one h1, show c = 1 by omega]; exact PM.one n
    · have hx := ih (c / 2) (by omega) (by omega)
      have hp := PM.mul (PM.sq hx (c / 2)) hx
      rw [ones_exp] at hp
      by_cases h2 : c % 2 = 1
      · rw [tones_odd h1 h2 rfl rfl]
        have := PM.mul (PM.sq hp 1) (PM.one n)
        have e : (2 ^ (2 * (c / 2)) - 1) * 2 ^ 1 + 1 = 2 ^ c - 1 := by
          have h3 : 2 ^ c = 2 ^ (2 * (c / 2)) * 2 := by rw [← Nat.pow_succ]; congr 1; omega
          have h4 : 0 < 2 ^ (2 * (c / 2)) := Nat.pow_pos (by decide)
          rw [h3]; omega
        rw [e] at this
        exact this
      · rw [tones_even h1 h2 rfl rfl]
        rw [show 2 * (c / 2) = c by omega] at hp
        exact hp

set_option maxRecDepth 100000 in
set_option maxHeartbeats 8000000 in
theorem squared_any (n k : Nat) (hn : n < R256) (hk : k < 9223372036854775808) (w : World) :
    Calls Tryd.prog 61 #[.agg (numA (n)), .int .i64 (k : Int)] w fun r w' => r = .returned (.agg (numA (tsq n k))) ∧ Below w.heap.size w w' := by
  have hz := (zero_of_info zeroFN).1
  go_enter Tryd.func61, Tryd.ntmps61
  go_wp2_with fail
  have hK0 := ((Kp.nil w).alloc (numA n) 97).alloc (Q4 0 0 0 0) 97
  rw [World.size_alloc] at hK0
  rw [Q4_zero]
  generalize (w.alloc (.cells (numA n) 97)).alloc (.cells (Q4 0 0 0 0) 97) = W at *
  obtain ⟨bN, H1⟩ : ∃ bN, Hid (w.heap.size = bN) := ⟨_, rfl⟩
  obtain ⟨bR, H2⟩ : ∃ bR, Hid (bN + 1 = bR) := ⟨_, rfl⟩
  have hleN : w.heap.size ≤ bN := Nat.le_of_eq H1.out
  have hleR : w.heap.size ≤ bR := by have := H1.out; have := H2.out; omega
  have nR : bR ≠ bN := by have := H2.out; omega
  rw [H1.out, H2.out] at hK0 ⊢
  go_loopw [6] (fun ii wr => ∃ i : Nat, i ≤ k ∧ ii = .int .i64 (i : Int) ∧ Kp [(bN, numA (tsq n i), 97), (bR, Q4 0 0 0 0, 97)] w wr) (fun ii _ => k - (intOf ii).toNat)
  case atStart => exact ⟨0, by omega, rfl, hK0.sub (by simp [tsq])⟩
  case round =>
    obtain ⟨i, hi, rfl, hK⟩ := hrel
    have hi0 : (0 : Int) ≤ (i : Int) := by omega
    have hx := tsq_lt hn i
    obtain ⟨x, Hx⟩ : ∃ x, Hid (tsq n i = x) := ⟨_, rfl⟩
    rw [Hx.out] at hK hx
    by_cases hlt : i < k
    · have hlti : (i : Int) < (k : Int) := by omega
      go_wp2_with (refine wpList_load_own (by rfl) 97 (.tmp 2) (by rfl) bN (by rfl) (numA x) _ hK.h1 Tryd.underlying97 (by rfl) infoFN ?_)
      refine (ptimes_any x x hx hx _).mono ?_
      rintro r W1 ⟨rfl, bw⟩
      have hK := hK.below bw
      go_wp2_with (refine wpList_store_own (by rfl) 97 (.tmp 2) (.tmp 10) (by rfl) bN 0 (numA (tmul x x)) (by rfl) (by rfl) hK.h1 (Nat.le_refl _) infoFN (numA_one _) (by rfl) ?_)
      refine ⟨⟨i + 1, by omega, by go_num, ?_⟩, by simp [intOf]; omega⟩
      rw [show tsq n (i + 1) = tmul x x by rw [tsq, Hx.out]]
      exact Kp.set (A' := numA (tmul x x)) hK (by simp; omega) hleN rfl
    · have hlti : ¬ (i : Int) < (k : Int) := by omega
      have He : Hid (x = tsq n k) := by show _ = _; rw [← Hx.out, show i = k by omega]
      go_upto_region 5 with fail
      go_wp2_with (first
        | refine wpList_load_own (by rfl) 97 (.tmp 2) (by rfl) bN (by rfl) (numA x) _ hK.h1 Tryd.underlying97 (by rfl) infoFN ?_
        | refine wpList_store_own (by rfl) 97 (.tmp 4) (.tmp 12) (by rfl) bR 0 (numA x) (by rfl) (by rfl) hK.h2 (Nat.le_refl _) infoFN (numA_one _) (by rfl) ?_)
      exact bodyPost_ret (results_own Tryd.results61 _ _ bR (numA x) _ (by rfl) (own_setCells hK.h2 rfl) Tryd.underlying97 rfl infoFN) rfl ⟨by rw [He.out], Below.setCells _ _ _ _ hleR hK.2⟩

set_option maxRecDepth 100000 in
set_option maxHeartbeats 16000000 in
theorem ones_any (n : Nat) (hn : n < R256) : ∀ c : Nat, 1 ≤ c → c < 9223372036854775808 → ∀ w : World,
    Calls Tryd.prog 64 #[.agg (numA (n)), .int .i64 (c : Int)] w fun r w' => r = .returned (.agg (numA (tones n c))) ∧ Below w.heap.size w w' := by
  intro c
  induction c using Nat.strongRecOn with
  | _ c ih =>
  intro hc hc63 w
  have hz := (zero_of_info zeroFN).1
  go_enter Tryd.func64, Tryd.ntmps64
  go_upto_region 1 with fail
  have hK := ((Kp.nil w).alloc (numA n) 97).alloc (Q4 0 0 0 0) 97
  rw [World.size_alloc] at hK
  rw [Q4_zero]
  generalize (w.alloc (.cells (numA n) 97)).alloc (.cells (Q4 0 0 0 0) 97) = W at *
  obtain ⟨bN, H1⟩ : ∃ bN, Hid (w.heap.size = bN) := ⟨_, rfl⟩
  obtain ⟨bR, H2⟩ : ∃ bR, Hid (bN + 1 = bR) := ⟨_, rfl⟩
  have hleN : w.heap.size ≤ bN := Nat.le_of_eq H1.out
  have hleR : w.heap.size ≤ bR := by have := H1.out; have := H2.out; omega
  have nR : bN ≠ bR := by have := H2.out; omega
  rw [H1.out, H2.out] at hK ⊢
  have hK : Kp [(bN, numA n, 97), (bR, Q4 0 0 0 0, 97)] w W := hK.sub (by simp)
  by_cases h1 : c ≤ 1
  · have hci : (c : Int) = 1 := by omega
    have He : Hid (tones n c = n) := tones_one h1
    go_wp2_with (first
      | refine wpList_load_own (by rfl) 97 (.tmp 2) (by rfl) bN (by rfl) (numA n) _ hK.h1 Tryd.underlying97 (by rfl) infoFN ?_
      | refine wpList_store_own (by rfl) 97 (.tmp 4) (.tmp 9) (by rfl) bR 0 (numA n) (by rfl) (by rfl) hK.h2 (Nat.le_refl _) infoFN (numA_one _) (by rfl) ?_)
    exact bodyPost_ret (results_own Tryd.results64 _ _ bR (numA n) _ (by rfl) (own_setCells hK.h2 rfl) Tryd.underlying97 rfl infoFN) rfl ⟨by rw [He.out], Below.setCells _ _ _ _ hleR hK.2⟩
  · have hci : ¬ (c : Int) = 1 := by omega
    have hdv : (c : Int).tdiv 2 = ((c / 2 : Nat) : Int) := by rw [Int.tdiv_eq_ediv_of_nonneg (by omega)]; omega
    have hmd : (c : Int).tmod 2 = ((c % 2 : Nat) : Int) := by rw [Int.tmod_eq_emod_of_nonneg (by omega)]; omega
    have hrec := ih (c / 2) (by omega) (by omega) (by omega)
    have hx := tones_lt hn (c / 2)
    have hh63 : c / 2 < 9223372036854775808 := by omega
    obtain ⟨h, Hh⟩ : ∃ h, Hid (c / 2 = h) := ⟨_, rfl⟩
    rw [Hh.out] at hdv hrec hx hh63
    obtain ⟨x, Hx⟩ : ∃ x, Hid (tones n h = x) := ⟨_, rfl⟩
    rw [Hx.out] at hrec hx
    have H1c := show Hid _ from h1
    have hwr : IntKind.i64.wrap (h : Int) = (h : Int) := by simp [IntKind.wrap, IntKind.bits, IntKind.signed]; omega
    clear h1 ih
    go_wp2_with (refine wpList_load_own (by rfl) 97 (.tmp 2) (by rfl) bN (by rfl) (numA n) _ hK.h1 Tryd.underlying97 (by rfl) infoFN ?_)
    refine (hrec W).mono ?_
    rintro r W1 ⟨rfl, bw⟩
    have hK := hK.below bw
    have lN := hK.h1.lt
    have lR := hK.h2.lt
    go_upto_region 4 with (refine wpList_store_new (by rfl) 97 (.tmp 5) (.tmp 13) (by rfl) _ (numA x) (by rfl) (by rfl) infoFN rfl (numA_one _) (by rfl) ?_)
    have hK := hK.alloc (numA x) 97
    generalize W1.alloc (.cells (numA x) 97) = W2 at *
    obtain ⟨bF, H3⟩ : ∃ bF, Hid (W1.heap.size = bF) := ⟨_, rfl⟩
    rw [H3.out] at hK lN lR ⊢
    refine wp_region_lv 28 (fun _ => [(bF, numA x, 97), (bN, numA n, 97), (bR, Q4 0 0 0 0, 97)]) [.v (.agg (numA (x))), .v (.int .i64 (c : Int)), .v (.int .i64 (h : Int)), .v (.agg (numA (tsq x h))), .v (.agg (numA (x))), .v (.agg (numA (tmul (tsq x h) x))), .mk (Q4 0 0 0 0) (numA (tmul (tsq x h) x)) 97 7, .o] hK (by kernel_rfl) (by kernel_rfl) (by kernel_rfl) (by rfl) ?_ ?_
    · exact .c (.ld bF (fun _ => .head _) Tryd.underlying97 rfl infoFN) <| .c (.p1 1 (.int .i64 (c : Int))) <| .c (.p1 15 (.int .i64 (c : Int))) <| .c (.ca fun _ _ _ => squared_any x h hx hh63 _) <| .c (.ld bF (fun _ => .head _) Tryd.underlying97 rfl infoFN) <| .c (.ca fun _ _ _ => ptimes_any _ _ (tsq_lt hx h) hx _) <| .c (.al hz) <| .c (.st 6 infoFN (numA_one _)) .nil
    · intro vs wq hJ hf
      obtain ⟨g, hg⟩ := hf 6 _ _ rfl rfl
      obtain ⟨hgl, hgn, hog⟩ := hJ.got 6 hg
      have hK := hJ.1.cons hog
      simp only [putL, Lv.val, Nat.zero_add, Nat.reduceAdd, hg, Act.put, List.setIfInBounds_toArray, List.set_cons_succ, List.set_cons_zero]
      have hy := tmul_lt (tsq_lt hx h) hx
      obtain ⟨y, Hy⟩ : ∃ y, Hid (tmul (tsq x h) x = y) := ⟨_, rfl⟩
      rw [Hy.out] at hK hy ⊢
      have ngF : bF ≠ g := hgn (bF, numA x, 97) (by simp)
      have ngN : bN ≠ g := hgn (bN, numA n, 97) (by simp)
      have ngR : bR ≠ g := hgn (bR, Q4 0 0 0 0, 97) (by simp)
      by_cases h2 : c % 2 = 1
      · have hmi : ((c % 2 : Nat) : Int) = 1 := by omega
        have He : Hid (tones n c = tmul (tsq y 1) n) := by show _ = _; rw [tones_odd H1c.out h2 Hh.out Hx.out, Hy.out]
        have HM := show Hid _ from hmd.trans hmi
        rw [hmi] at hmd
        go_upto_region 6 with fail
        refine wp_region_lv 28 (fun L => [(g, if L 4 = true then numA (tmul (tsq y 1) n) else numA y, 97), (bF, numA x, 97), (bN, numA n, 97), (bR, Q4 0 0 0 0, 97)]) [.v (.agg (numA (y))), .v (.agg (numA (tsq y 1))), .v (.agg (numA (n))), .v (.agg (numA (tmul (tsq y 1) n))), .o] hK (by kernel_rfl) (by kernel_rfl) (by kernel_rfl) (by rfl) ?_ ?_
        · exact .c (.lq g 4 false (fun L h => by rw [h]; exact .head _) Tryd.underlying97 rfl infoFN) <| .c (.ca fun _ _ _ => squared_any y 1 hy (by decide) _) <| .c (.ld bN (fun _ => .tail _ (.tail _ (.head _))) Tryd.underlying97 rfl infoFN) <| .c (.ca fun _ _ _ => ptimes_any _ _ (tsq_lt hy 1) hn _) <| .c (.sk g (.hr (fun _ => rfl) (fun _ => rfl) (fun _ => by simp; omega)) hgl infoFN (numA_one _)) .nil
        · intro _ wz hJ _
          have hK : Kp [(g, numA (tmul (tsq y 1) n), 97), (bF, numA x, 97), (bN, numA n, 97), (bR, Q4 0 0 0 0, 97)] w wz := hJ.1
          simp only [putL, Lv.val, Act.put, List.setIfInBounds_toArray, List.set_cons_succ, List.set_cons_zero]
          go_upto_region 7 with fail
          have hK : Kp [(g, numA (tmul (tsq y 1) n), 97), (bF, numA x, 97), (bN, numA n, 97), (bR, Q4 0 0 0 0, 97)] w wz := hK
          go_wp2_with (first
            | refine wpList_load_own (by rfl) 97 (.tmp 6) (by rfl) g (by rfl) (numA (tmul (tsq y 1) n)) _ hK.h1 Tryd.underlying97 (by rfl) infoFN ?_
            | refine wpList_store_own (by rfl) 97 (.tmp 4) (.tmp 27) (by rfl) bR 0 (numA (tmul (tsq y 1) n)) (by rfl) (by rfl) hK.h4 (Nat.le_refl _) infoFN (numA_one _) (by rfl) ?_)
          exact bodyPost_ret (results_own Tryd.results64 _ _ bR (numA (tmul (tsq y 1) n)) _ (by rfl) (own_setCells hK.h4 rfl) Tryd.underlying97 rfl infoFN) rfl ⟨by rw [He.out], Below.setCells _ _ _ _ hleR hK.2⟩
      · have hmi : ¬ ((c % 2 : Nat) : Int) = 1 := by omega
        have He : Hid (tones n c = y) := by show _ = _; rw [tones_even H1c.out h2 Hh.out Hx.out, Hy.out]
        go_upto_region 7 with fail
        go_wp2_with (first
          | refine wpList_load_own (by rfl) 97 (.tmp 6) (by rfl) g (by rfl) (numA y) _ hK.h1 Tryd.underlying97 (by rfl) infoFN ?_
          | refine wpList_store_own (by rfl) 97 (.tmp 4) (.tmp 27) (by rfl) bR 0 (numA y) (by rfl) (by rfl) hK.h4 (Nat.le_refl _) infoFN (numA_one _) (by rfl) ?_)
        exact bodyPost_ret (results_own Tryd.results64 _ _ bR (numA y) _ (by rfl) (own_setCells hK.h4 rfl) Tryd.underlying97 rfl infoFN) rfl ⟨by rw [He.out], Below.setCells _ _ _ _ hleR hK.2⟩
end Go.Proofs.YtgibllaifnnfkaaDoor
