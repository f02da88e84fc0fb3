/- Of the texts F10, F11, EB: what the card of this claim reaches. -/
import Derived.Test.YtgibllaifnnfkaaGreatDoorXE6
import Derived.Test.YtgibllaifnnfkaaGreatDoorXE4
import Derived.Test.YtgibllaifnnfkaaGreatDoorXE3
namespace Go.Proofs.YtgibllaifnnfkaaGreatDoor
open Go.RowKit
def tsq (n : Nat) : Nat → Nat
  | 0 => n
  | k + 1 => tmul (tsq n k) (tsq n k)
theorem tsq_lt {n : Nat} (hn : n < R256) : ∀ k, tsq n k < R256
  | 0 => hn
  | k + 1 => tmul_lt (tsq_lt hn k) (tsq_lt hn k)
def tones (n c : Nat) : Nat :=
  if c ≤ 1 then n else
  if c % 2 = 1 then tmul (tsq (tmul (tsq (tones n (c / 2)) (c / 2)) (tones n (c / 2))) 1) n else tmul (tsq (tones n (c / 2)) (c / 2)) (tones n (c / 2))
termination_by c
decreasing_by all_goals omega
theorem tones_one {n c : Nat} (h : c ≤ 1) : tones n c = n := by rw [tones, if_pos h]
theorem tones_odd {n c h x : Nat} (h1 : ¬ c ≤ 1) (h2 : c % 2 = 1) (hh : c / 2 = h) (hx : tones n h = x) : tones n c = tmul (tsq (tmul (tsq x h) x) 1) n := by rw [tones, if_neg h1, if_pos h2, hh, hx]
theorem tones_even {n c h x : Nat} (h1 : ¬ c ≤ 1) (h2 : ¬ c % 2 = 1) (hh : c / 2 = h) (hx : tones n h = x) : tones n c = tmul (tsq x h) x := by rw [tones, if_neg h1, if_neg h2, hh, hx]
theorem tones_lt {n : Nat} (hn : n < R256) (c : Nat) : tones n c < R256 := by
  induction c using Nat.strongRecOn with
  | _ c ih =>
    by_cases h1 : c ≤ 1
    · rw [tones_one h1]; exact hn
    · have hx := ih (c / 2) (by omega)
      by_cases h2 : c % 2 = 1
      · rw [tones_odd h1 h2 rfl rfl]; exact tmul_lt (tsq_lt (tmul_lt (tsq_lt hx _) hx) _) hn
      · rw [tones_even h1 h2 rfl rfl]; exact tmul_lt (tsq_lt hx _) hx
def PM (n i x : Nat) : Prop := x % pp = n ^ i % pp
theorem PM.one (n : Nat) : PM n 1 n := by unfold PM; rw [Nat.pow_one]
theorem PM.mul {n i j x y : Nat} (hx : PM n i x) (hy : PM n j y) : PM n (i + j) (tmul x y) := by
  unfold PM at *
  rw [tmul_mod, Nat.mul_mod, hx, hy, ← Nat.mul_mod, Nat.pow_add]
theorem PM.sq {n i x : Nat} (hx : PM n i x) : ∀ k, PM n (i * 2 ^ k) (tsq x k)
  | 0 => by rw [Nat.pow_zero, Nat.mul_one]; exact hx
  | k + 1 => by
    have h := PM.mul (PM.sq hx k) (PM.sq hx k)
    rw [Nat.pow_succ, ← Nat.mul_assoc, Nat.mul_two]
    exact h
theorem ones_exp (h : Nat) : (2 ^ h - 1) * 2 ^ h + (2 ^ h - 1) = 2 ^ (2 * h) - 1 := by
  have h1 : 0 < 2 ^ h := Nat.pow_pos (by decide)
  obtain ⟨q, hq⟩ : ∃ q, 2 ^ h = q + 1 := ⟨2 ^ h - 1, by omega⟩
  rw [Nat.two_mul, Nat.pow_add, hq, Nat.add_sub_cancel, Nat.add_mul, Nat.mul_add, Nat.mul_add]
  omega
theorem tones_pow (n c : Nat) (hc : 1 ≤ c) : PM n (2 ^ c - 1) (tones n c) := by
  induction c using Nat.strongRecOn with
  | _ c ih =>
    by_cases h1 : c ≤ 1
    · rw [tones_one h1, show c = 1 by omega]; exact PM.one n
    · have hx := ih (c / 2) (by omega) (by omega)
      have hp := PM.mul (PM.sq hx (c / 2)) hx
      rw [ones_exp] at hp
      by_cases h2 : c % 2 = 1
      · rw [tones_odd h1 h2 rfl rfl]
        have := PM.mul (PM.sq hp 1) (PM.one n)
        have e : (2 ^ (2 * (c / 2)) - 1) * 2 ^ 1 + 1 = 2 ^ c - 1 := by
          have h3 : 2 ^ c = 2 ^ (2 * (c / 2)) * 2 := by rw [← Nat.pow_succ]; congr 1; omega
          have h4 : 0 < 2 ^ (2 * (c / 2)) := Nat.pow_pos (by decide)
          rw [h3]; omega
        rw [e] at this
        exact this
      · rw [tones_even h1 h2 rfl rfl]
        rw [show 2 * (c / 2) = c by omega] at hp
        exact hp
set_option maxRecDepth 100000 in
set_option maxHeartbeats 8000000 in
theorem squared_any (n k : Nat) (hn : n < R256) (hk : k < 9223372036854775808) (w : World) :
    Calls Tryz.prog 109 #[.agg (numA (n)), .int .i64 (k : Int)] w fun r w' => r = .returned (.agg (numA (tsq n k))) ∧ Below w.heap.size w w' := by
  have hz := (zero_of_info zeroFN).1
  go_enter Tryz.func109, Tryz.ntmps109
  go_wp2_with fail
  have hK0 := ((Kp.nil w).alloc (numA n) 131).alloc (Q4 0 0 0 0) 131
  rw [World.size_alloc] at hK0
  rw [Q4_zero]
  generalize (w.alloc (.cells (numA n) 131)).alloc (.cells (Q4 0 0 0 0) 131) = W at *
  obtain ⟨bN, H1⟩ : ∃ bN, Hid (w.heap.size = bN) := ⟨_, rfl⟩
  obtain ⟨bR, H2⟩ : ∃ bR, Hid (bN + 1 = bR) := ⟨_, rfl⟩
  have hleN : w.heap.size ≤ bN := Nat.le_of_eq H1.out
  have hleR : w.heap.size ≤ bR := by have := H1.out; have := H2.out; omega
  have nR : bR ≠ bN := by have := H2.out; omega
  rw [H1.out, H2.out] at hK0 ⊢
  go_loopw [6] (fun ii wr => ∃ i : Nat, i ≤ k ∧ ii = .int .i64 (i : Int) ∧ Kp [(bN, numA (tsq n i), 131), (bR, Q4 0 0 0 0, 131)] w wr) (fun ii _ => k - (intOf ii).toNat)
  case atStart => exact ⟨0, by omega, rfl, hK0.sub (by simp [tsq])⟩
  case round =>
    obtain ⟨i, hi, rfl, hK⟩ := hrel
    have hi0 : (0 : Int) ≤ (i : Int) := by omega
    have hx := tsq_lt hn i
    obtain ⟨x, Hx⟩ : ∃ x, Hid (tsq n i = x) := ⟨_, rfl⟩
    rw [Hx.out] at hK hx
    by_cases hlt : i < k
    · have hlti : (i : Int) < (k : Int) := by omega
      go_wp2_with (refine wpList_load_own (by rfl) 131 (.tmp 2) (by rfl) bN (by rfl) (numA x) _ hK.h1 Tryz.underlying131 (by rfl) infoFN ?_)
      refine (ptimes_any x x hx hx _).mono ?_
      rintro r W1 ⟨rfl, bw⟩
      have hK := hK.below bw
      go_wp2_with (refine wpList_store_own (by rfl) 131 (.tmp 2) (.tmp 10) (by rfl) bN 0 (numA (tmul x x)) (by rfl) (by rfl) hK.h1 (Nat.le_refl _) infoFN (numA_one _) (by rfl) ?_)
      refine ⟨⟨i + 1, by omega, by go_num, ?_⟩, by simp [intOf]; omega⟩
      rw [show tsq n (i + 1) = tmul x x by rw [tsq, Hx.out]]
      exact Kp.set (A' := numA (tmul x x)) hK (by simp; omega) hleN rfl
    · have hlti : ¬ (i : Int) < (k : Int) := by omega
      have He : Hid (x = tsq n k) := by show _ = _; rw [← Hx.out, show i = k by omega]
      go_upto_region 5 with fail
      go_wp2_with (first
        | refine wpList_load_own (by rfl) 131 (.tmp 2) (by rfl) bN (by rfl) (numA x) _ hK.h1 Tryz.underlying131 (by rfl) infoFN ?_
        | refine wpList_store_own (by rfl) 131 (.tmp 4) (.tmp 12) (by rfl) bR 0 (numA x) (by rfl) (by rfl) hK.h2 (Nat.le_refl _) infoFN (numA_one _) (by rfl) ?_)
      exact bodyPost_ret (results_own Tryz.results109 _ _ bR (numA x) _ (by rfl) (own_setCells hK.h2 rfl) Tryz.underlying131 rfl infoFN) rfl ⟨by rw [He.out], Below.setCells _ _ _ _ hleR hK.2⟩
set_option maxRecDepth 100000 in
set_option maxHeartbeats 16000000 in
theorem ones_any (n : Nat) (hn : n < R256) : ∀ c : Nat, 1 ≤ c → c < 9223372036854775808 → ∀ w : World,
    Calls Tryz.prog 112 #[.agg (numA (n)), .int .i64 (c : Int)] w fun r w' => r = .returned (.agg (numA (tones n c))) ∧ Below w.heap.size w w' := by
  intro c
  induction c using Nat.strongRecOn with
  | _ c ih =>
  intro hc hc63 w
  have hz := (zero_of_info zeroFN).1
  go_enter Tryz.func112, Tryz.ntmps112
  go_upto_region 1 with fail
  have hK := ((Kp.nil w).alloc (numA n) 131).alloc (Q4 0 0 0 0) 131
  rw [World.size_alloc] at hK
  rw [Q4_zero]
  generalize (w.alloc (.cells (numA n) 131)).alloc (.cells (Q4 0 0 0 0) 131) = W at *
  obtain ⟨bN, H1⟩ : ∃ bN, Hid (w.heap.size = bN) := ⟨_, rfl⟩
  obtain ⟨bR, H2⟩ : ∃ bR, Hid (bN + 1 = bR) := ⟨_, rfl⟩
  have hleN : w.heap.size ≤ bN := Nat.le_of_eq H1.out
  have hleR : w.heap.size ≤ bR := by have := H1.out; have := H2.out; omega
  have nR : bN ≠ bR := by have := H2.out; omega
  rw [H1.out, H2.out] at hK ⊢
  have hK : Kp [(bN, numA n, 131), (bR, Q4 0 0 0 0, 131)] w W := hK.sub (by simp)
  by_cases h1 : c ≤ 1
  · have hci : (c : Int) = 1 := by omega
    have He : Hid (tones n c = n) := tones_one h1
    go_wp2_with (first
      | refine wpList_load_own (by rfl) 131 (.tmp 2) (by rfl) bN (by rfl) (numA n) _ hK.h1 Tryz.underlying131 (by rfl) infoFN ?_
      | refine wpList_store_own (by rfl) 131 (.tmp 4) (.tmp 9) (by rfl) bR 0 (numA n) (by rfl) (by rfl) hK.h2 (Nat.le_refl _) infoFN (numA_one _) (by rfl) ?_)
    exact bodyPost_ret (results_own Tryz.results112 _ _ bR (numA n) _ (by rfl) (own_setCells hK.h2 rfl) Tryz.underlying131 rfl infoFN) rfl ⟨by rw [He.out], Below.setCells _ _ _ _ hleR hK.2⟩
  · have hci : ¬ (c : Int) = 1 := by omega
    have hdv : (c : Int).tdiv 2 = ((c / 2 : Nat) : Int) := by rw [Int.tdiv_eq_ediv_of_nonneg (by omega)]; omega
    have hmd : (c : Int).tmod 2 = ((c % 2 : Nat) : Int) := by rw [Int.tmod_eq_emod_of_nonneg (by omega)]; omega
    have hrec := ih (c / 2) (by omega) (by omega) (by omega)
    have hx := tones_lt hn (c / 2)
    have hh63 : c / 2 < 9223372036854775808 := by omega
    obtain ⟨h, Hh⟩ : ∃ h, Hid (c / 2 = h) := ⟨_, rfl⟩
    rw [Hh.out] at hdv hrec hx hh63
    obtain ⟨x, Hx⟩ : ∃ x, Hid (tones n h = x) := ⟨_, rfl⟩
    rw [Hx.out] at hrec hx
    have H1c := show Hid _ from h1
    have hwr : IntKind.i64.wrap (h : Int) = (h : Int) := by simp [IntKind.wrap, IntKind.bits, IntKind.signed]; omega
    clear h1 ih
    go_wp2_with (refine wpList_load_own (by rfl) 131 (.tmp 2) (by rfl) bN (by rfl) (numA n) _ hK.h1 Tryz.underlying131 (by rfl) infoFN ?_)
    refine (hrec W).mono ?_
    rintro r W1 ⟨rfl, bw⟩
    have hK := hK.below bw
    have lN := hK.h1.lt
    have lR := hK.h2.lt
    go_upto_region 4 with (refine wpList_store_new (by rfl) 131 (.tmp 5) (.tmp 13) (by rfl) _ (numA x) (by rfl) (by rfl) infoFN rfl (numA_one _) (by rfl) ?_)
    have hK := hK.alloc (numA x) 131
    generalize W1.alloc (.cells (numA x) 131) = W2 at *
    obtain ⟨bF, H3⟩ : ∃ bF, Hid (W1.heap.size = bF) := ⟨_, rfl⟩
    rw [H3.out] at hK lN lR ⊢
    refine wp_region_lv 28 (fun _ => [(bF, numA x, 131), (bN, numA n, 131), (bR, Q4 0 0 0 0, 131)]) [.v (.agg (numA (x))), .v (.int .i64 (c : Int)), .v (.int .i64 (h : Int)), .v (.agg (numA (tsq x h))), .v (.agg (numA (x))), .v (.agg (numA (tmul (tsq x h) x))), .mk (Q4 0 0 0 0) (numA (tmul (tsq x h) x)) 131 7, .o] hK (by kernel_rfl) (by kernel_rfl) (by kernel_rfl) (by rfl) ?_ ?_
    · exact .c (.ld bF (fun _ => .head _) Tryz.underlying131 rfl infoFN) <| .c (.p1 1 (.int .i64 (c : Int))) <| .c (.p1 15 (.int .i64 (c : Int))) <| .c (.ca fun _ _ _ => squared_any x h hx hh63 _) <| .c (.ld bF (fun _ => .head _) Tryz.underlying131 rfl infoFN) <| .c (.ca fun _ _ _ => ptimes_any _ _ (tsq_lt hx h) hx _) <| .c (.al hz) <| .c (.st 6 infoFN (numA_one _)) .nil
    · intro vs wq hJ hf
      obtain ⟨g, hg⟩ := hf 6 _ _ rfl rfl
      obtain ⟨hgl, hgn, hog⟩ := hJ.got 6 hg
      have hK := hJ.1.cons hog
      simp only [putL, Lv.val, Nat.zero_add, Nat.reduceAdd, hg, Act.put, List.setIfInBounds_toArray, List.set_cons_succ, List.set_cons_zero]
      have hy := tmul_lt (tsq_lt hx h) hx
      obtain ⟨y, Hy⟩ : ∃ y, Hid (tmul (tsq x h) x = y) := ⟨_, rfl⟩
      rw [Hy.out] at hK hy ⊢
      have ngF : bF ≠ g := hgn (bF, numA x, 131) (by simp)
      have ngN : bN ≠ g := hgn (bN, numA n, 131) (by simp)
      have ngR : bR ≠ g := hgn (bR, Q4 0 0 0 0, 131) (by simp)
      by_cases h2 : c % 2 = 1
      · have hmi : ((c % 2 : Nat) : Int) = 1 := by omega
        have He : Hid (tones n c = tmul (tsq y 1) n) := by show _ = _; rw [tones_odd H1c.out h2 Hh.out Hx.out, Hy.out]
        have HM := show Hid _ from hmd.trans hmi
        rw [hmi] at hmd
        go_upto_region 6 with fail
        refine wp_region_lv 28 (fun L => [(g, if L 4 = true then numA (tmul (tsq y 1) n) else numA y, 131), (bF, numA x, 131), (bN, numA n, 131), (bR, Q4 0 0 0 0, 131)]) [.v (.agg (numA (y))), .v (.agg (numA (tsq y 1))), .v (.agg (numA (n))), .v (.agg (numA (tmul (tsq y 1) n))), .o] hK (by kernel_rfl) (by kernel_rfl) (by kernel_rfl) (by rfl) ?_ ?_
        · exact .c (.lq g 4 false (fun L h => by rw [h]; exact .head _) Tryz.underlying131 rfl infoFN) <| .c (.ca fun _ _ _ => squared_any y 1 hy (by decide) _) <| .c (.ld bN (fun _ => .tail _ (.tail _ (.head _))) Tryz.underlying131 rfl infoFN) <| .c (.ca fun _ _ _ => ptimes_any _ _ (tsq_lt hy 1) hn _) <| .c (.sk g (.hr (fun _ => rfl) (fun _ => rfl) (fun _ => by simp; omega)) hgl infoFN (numA_one _)) .nil
        · intro _ wz hJ _
          have hK : Kp [(g, numA (tmul (tsq y 1) n), 131), (bF, numA x, 131), (bN, numA n, 131), (bR, Q4 0 0 0 0, 131)] w wz := hJ.1
          simp only [putL, Lv.val, Act.put, List.setIfInBounds_toArray, List.set_cons_succ, List.set_cons_zero]
          go_upto_region 7 with fail
          have hK : Kp [(g, numA (tmul (tsq y 1) n), 131), (bF, numA x, 131), (bN, numA n, 131), (bR, Q4 0 0 0 0, 131)] w wz := hK
          go_wp2_with (first
            | refine wpList_load_own (by rfl) 131 (.tmp 6) (by rfl) g (by rfl) (numA (tmul (tsq y 1) n)) _ hK.h1 Tryz.underlying131 (by rfl) infoFN ?_
            | refine wpList_store_own (by rfl) 131 (.tmp 4) (.tmp 27) (by rfl) bR 0 (numA (tmul (tsq y 1) n)) (by rfl) (by rfl) hK.h4 (Nat.le_refl _) infoFN (numA_one _) (by rfl) ?_)
          exact bodyPost_ret (results_own Tryz.results112 _ _ bR (numA (tmul (tsq y 1) n)) _ (by rfl) (own_setCells hK.h4 rfl) Tryz.underlying131 rfl infoFN) rfl ⟨by rw [He.out], Below.setCells _ _ _ _ hleR hK.2⟩
      · have hmi : ¬ ((c % 2 : Nat) : Int) = 1 := by omega
        have He : Hid (tones n c = y) := by show _ = _; rw [tones_even H1c.out h2 Hh.out Hx.out, Hy.out]
        go_upto_region 7 with fail
        go_wp2_with (first
          | refine wpList_load_own (by rfl) 131 (.tmp 6) (by rfl) g (by rfl) (numA y) _ hK.h1 Tryz.underlying131 (by rfl) infoFN ?_
          | refine wpList_store_own (by rfl) 131 (.tmp 4) (.tmp 27) (by rfl) bR 0 (numA y) (by rfl) (by rfl) hK.h4 (Nat.le_refl _) infoFN (numA_one _) (by rfl) ?_)
        exact bodyPost_ret (results_own Tryz.results112 _ _ bR (numA y) _ (by rfl) (own_setCells hK.h4 rfl) Tryz.underlying131 rfl infoFN) rfl ⟨by rw [He.out], Below.setCells _ _ _ _ hleR hK.2⟩
end Go.Proofs.YtgibllaifnnfkaaGreatDoor
namespace Go.Proofs.YtgibllaifnnfkaaGreatDoor
open Go.RowKit
def FInv (T : World → Prop) : Prop := ∀ a, a < R256 → ∀ w, T w → Calls Tryz.prog 86 #[.agg (B32 (bdig a))] w fun x w' => x = .returned (.agg (B32 (bdig (finv a)))) ∧ Below w.heap.size w w'
theorem finvA {T : World → Prop} (hI : FInv T) {a c : Nat} (ha : a < R256) (hc : finv a = c) (w : World) (hT : T w) : Calls Tryz.prog 86 #[.agg (B32 (bdig a))] w fun x w' => x = .returned (.agg (B32 (bdig c))) ∧ Below w.heap.size w w' := by
  rw [← hc]; exact hI a ha w hT
theorem inv_exp : (2 ^ 250 - 1) * 2 ^ 5 + (1 * 2 ^ 1 * 2 ^ 2 + 1 * 2 ^ 1 + 1) = pp - 2 := by decide
theorem inv_power {a o s e : Nat} (ho : tones a 250 = o) (hs : tsq a 1 = s) (he : tmul (tmul (tsq s 2) s) a = e) : tmul (tsq o 5) e % pp = finv a := by
  have h1 : PM a (2 ^ 250 - 1) o := by rw [← ho]; exact tones_pow a 250 (by decide)
  have h2 : PM a (1 * 2 ^ 1) s := by rw [← hs]; exact PM.sq (PM.one a) 1
  have h3 : PM a (1 * 2 ^ 1 * 2 ^ 2 + 1 * 2 ^ 1 + 1) e := by rw [← he]; exact PM.mul (PM.mul (PM.sq h2 2) h2) (PM.one a)
  have h4 := PM.mul (PM.sq h1 5) h3
  rw [inv_exp] at h4
  exact h4
set_option maxRecDepth 100000 in
set_option maxHeartbeats 16000000 in
theorem finv_p : FInv TP := by
  intro a ha w hT
  have hz := (zero_of_info zeroB32).1
  have hz2 := (zero_of_info zeroFN).1
  have hs := tsq_lt ha 1
  obtain ⟨s, Hs⟩ : ∃ s, Hid (tsq a 1 = s) := ⟨_, rfl⟩
  rw [Hs.out] at hs
  have he := tmul_lt (tmul_lt (tsq_lt hs 2) hs) ha
  obtain ⟨e, He⟩ : ∃ e, Hid (tmul (tmul (tsq s 2) s) a = e) := ⟨_, rfl⟩
  rw [He.out] at he
  have ho5 := tones_lt ha 250
  obtain ⟨o, Ho⟩ : ∃ o, Hid (tones a 250 = o) := ⟨_, rfl⟩
  rw [Ho.out] at ho5
  have Hfin : Hid (tmul (tsq o 5) e % pp = finv a) := inv_power Ho.out Hs.out He.out
  obtain ⟨x, Hx⟩ : ∃ x, Hid (finv a = x) := ⟨_, rfl⟩
  rw [Hx.out]
  go_enter Tryz.func86, Tryz.ntmps86
  go_upto_region 1 with fail
  have hK := ((Kp.nil w).alloc (B32 (bdig a)) 22).alloc (B32 fun _ => 0) 22
  rw [World.size_alloc] at hK
  generalize (w.alloc (.cells (B32 (bdig a)) 22)).alloc (.cells (B32 fun _ => 0) 22) = W at *
  obtain ⟨bA, H1⟩ : ∃ bA, Hid (w.heap.size = bA) := ⟨_, rfl⟩
  obtain ⟨bR, H2⟩ : ∃ bR, Hid (bA + 1 = bR) := ⟨_, rfl⟩
  have hleR : w.heap.size ≤ bR := by have := H1.out; have := H2.out; omega
  rw [H1.out, H2.out] at hK ⊢
  go_wp2_with (refine wpList_load_own (by rfl) 22 (.tmp 1) (by rfl) bA (by rfl) (B32 (bdig a)) _ hK.h2 Tryz.underlying22 (by rfl) (B32_info _) ?_)
  refine (read_any a W).mono ?_
  rintro r W1 ⟨rfl, bw⟩
  have hK := hK.below bw
  have lR := hK.h1.lt
  go_upto_region 2 with (refine wpList_store_new (by rfl) 131 (.tmp 3) (.tmp 7) (by rfl) _ (numA a) (by rfl) (by rfl) infoFN rfl (numA_one _) (by rfl) ?_)
  have hK := hK.alloc (numA a) 131
  generalize W1.alloc (.cells (numA a) 131) = W2 at *
  obtain ⟨bN, H3⟩ : ∃ bN, Hid (W1.heap.size = bN) := ⟨_, rfl⟩
  rw [H3.out] at hK lR ⊢
  have hK : Kp [(bN, numA a, 131), (bR, B32 fun _ => 0, 22)] w W2 := hK.sub (by simp)
  go_wp2_with (refine wpList_load_own (by rfl) 131 (.tmp 3) (by rfl) bN (by rfl) (numA a) _ hK.h1 Tryz.underlying131 (by rfl) infoFN ?_)
  refine (squared_any a 1 ha (by decide) W2).mono ?_
  rintro r W3 ⟨rfl, bw⟩
  rw [Hs.out]
  have hK := hK.below bw
  go_upto_region 3 with (refine wpList_store_new (by rfl) 131 (.tmp 4) (.tmp 9) (by rfl) _ (numA s) (by rfl) (by rfl) infoFN rfl (numA_one _) (by rfl) ?_)
  have hK := hK.alloc (numA s) 131
  generalize W3.alloc (.cells (numA s) 131) = W4 at *
  obtain ⟨bS, H4⟩ : ∃ bS, Hid (W3.heap.size = bS) := ⟨_, rfl⟩
  rw [H4.out] at hK ⊢
  refine wp_region_lv 22 (fun _ => [(bS, numA s, 131), (bN, numA a, 131), (bR, B32 fun _ => 0, 22)]) [.v (.agg (numA (s))), .v (.agg (numA (tsq s 2))), .v (.agg (numA (s))), .v (.agg (numA (tmul (tsq s 2) s))), .v (.agg (numA (a))), .v (.agg (numA (tmul (tmul (tsq s 2) s) a))), .mk (Q4 0 0 0 0) (numA (tmul (tmul (tsq s 2) s) a)) 131 7, .o] hK (by kernel_rfl) (by kernel_rfl) (by kernel_rfl) (by rfl) ?_ ?_
  · exact .c (.ld bS (fun _ => .head _) Tryz.underlying131 rfl infoFN) <| .c (.ca fun _ _ _ => squared_any s 2 hs (by decide) _) <| .c (.ld bS (fun _ => .head _) Tryz.underlying131 rfl infoFN) <| .c (.ca fun _ _ _ => ptimes_any _ _ (tsq_lt hs 2) hs _) <| .c (.ld bN (fun _ => .tail _ (.head _)) Tryz.underlying131 rfl infoFN) <| .c (.ca fun _ _ _ => ptimes_any _ _ (tmul_lt (tsq_lt hs 2) hs) ha _) <| .c (.al hz2) <| .c (.st 6 infoFN (numA_one _)) .nil
  · intro vs wq hJ hf
    obtain ⟨g, hg⟩ := hf 6 _ _ rfl rfl
    obtain ⟨hgl, hgn, hog⟩ := hJ.got 6 hg
    have hK := hJ.1.cons hog
    simp only [putL, Lv.val, Nat.zero_add, Nat.reduceAdd, hg, Act.put, List.setIfInBounds_toArray, List.set_cons_succ, List.set_cons_zero]
    rw [He.out] at hK ⊢
    have ngR : bR ≠ g := hgn (bR, B32 fun _ => 0, 22) (by simp)
    have hK : Kp [(bR, B32 fun _ => 0, 22), (g, numA e, 131), (bN, numA a, 131)] w wq := hK.sub (by simp)
    go_upto_region 4 with fail
    refine wp_region_lv 22 (fun L => [(bR, if L 6 = true then B32 (bdig (tmul (tsq o 5) e % pp)) else B32 fun _ => 0, 22), (g, numA e, 131), (bN, numA a, 131)]) [.v (.agg (numA (a))), .v (.agg (numA (o))), .v (.agg (numA (tsq o 5))), .v (.agg (numA (e))), .v (.agg (numA (tmul (tsq o 5) e))), .v (.agg (B32 (bdig (tmul (tsq o 5) e % pp)))), .o] hK (by kernel_rfl) (by kernel_rfl) (by kernel_rfl) (by rfl) ?_ ?_
    · exact .c (.ld bN (fun _ => .tail _ (.tail _ (.head _))) Tryz.underlying131 rfl infoFN) <| .c (.ca fun _ wc hkx => by have h := ones_any a ha 250 (by decide) (by decide) wc; rw [Ho.out] at h; exact h) <| .c (.ca fun _ _ _ => squared_any o 5 ho5 (by decide) _) <| .c (.ld g (fun _ => .tail _ (.head _)) Tryz.underlying131 rfl infoFN) <| .c (.ca fun _ _ _ => ptimes_any _ _ (tsq_lt ho5 5) he _) <| .c (.ca fun _ _ hkx => write_any _ (tmul_lt (tsq_lt ho5 5) he) _ (hT.kp hkx)) <| .c (.sk bR (.hr (fun _ => rfl) (fun _ => rfl) (fun _ => by simp; omega)) hleR (B32_info _) (B32_one _)) .nil
    · intro _ wz hJ _
      have hK : Kp [(bR, B32 (bdig (tmul (tsq o 5) e % pp)), 22), (g, numA e, 131), (bN, numA a, 131)] w wz := hJ.1
      simp only [putL, Lv.val, Act.put, List.setIfInBounds_toArray, List.set_cons_succ, List.set_cons_zero]
      go_wp2_with fail
      exact bodyPost_ret (results_own Tryz.results86 _ _ bR (B32 (bdig (tmul (tsq o 5) e % pp))) _ (by rfl) hK.h1 Tryz.underlying22 rfl (B32_info _)) rfl ⟨by rw [Hfin.out, Hx.out], hK.2⟩
end Go.Proofs.YtgibllaifnnfkaaGreatDoor
namespace Go.Proofs.YtgibllaifnnfkaaGreatDoor
open Go.RowKit
theorem infoA8 : (Tryz.prog.info? 80).map (·.size) = some 8 := by kernel_rfl
set_option maxRecDepth 100000 in
set_option maxHeartbeats 4000000 in
theorem add_dig (f g : Nat → Nat) (hf : ∀ i, i < 4 → f i < 18446744073709551616) (hg : ∀ i, i < 4 → g i < 18446744073709551616) (w : World) :
    Calls Tryz.prog 102 #[.agg (A4 f), .agg (A4 g)] w fun e w' => (∃ (h : Nat → Nat) (c : Nat), e = .returned (.tuple #[.agg (A4 h), .int .u64 (c : Int)]) ∧ (∀ i, i < 4 → h i < 18446744073709551616) ∧ c ≤ 1 ∧ vl f 4 + vl g 4 = vl h 4 + 18446744073709551616 ^ 4 * c) ∧ Below w.heap.size w w' := by
  have hz := (zero_of_info zeroNum).1
  go_enter Tryz.func102, Tryz.ntmps102
  go_wp2_with fail
  obtain ⟨oA, oB, oR, oO, hbW⟩ := four_blocks w (A4 f) (A4 g) (A4 fun _ => 0) (A4 fun _ => 0) 54
  have hAB : w.heap.size ≠ w.heap.size + 1 + 1 + 1 := by omega
  have hBB : w.heap.size + 1 ≠ w.heap.size + 1 + 1 + 1 := by omega
  have hRB : w.heap.size + 1 + 1 ≠ w.heap.size + 1 + 1 + 1 := by omega
  have hlo : w.heap.size ≤ w.heap.size + 1 + 1 + 1 := by omega
  have hlr : w.heap.size ≤ w.heap.size + 1 + 1 := by omega
  generalize ((((w.alloc (Obj.cells (A4 f) 54)).alloc (Obj.cells (A4 g) 54)).alloc (Obj.cells (A4 fun _ => 0) 54)).alloc (Obj.cells (A4 fun _ => 0) 54)) = W at *
  generalize w.heap.size + 1 + 1 + 1 = bO at *
  generalize w.heap.size + 1 + 1 = bR at *
  generalize w.heap.size + 1 = bB at *
  obtain ⟨bA, HA⟩ : ∃ bA, Hid (w.heap.size = bA) := ⟨_, rfl⟩
  rw [HA.out] at oA hAB hlo hlr hbW ⊢
  go_loopw [8, 6] (fun i cc wr => ∃ (k c : Nat) (h : Nat → Nat), k ≤ 4 ∧ i = .int .i64 (k : Int) ∧ cc = .int .u64 (c : Int) ∧ c ≤ 1 ∧ (∀ i, i < 4 → h i < 18446744073709551616) ∧ Own wr bA (A4 f) 54 ∧ Own wr bB (A4 g) 54 ∧ Own wr bR (A4 fun _ => 0) 54 ∧ Own wr bO (A4 h) 54 ∧ Below bA w wr ∧ Hid (vl f k + vl g k = vl h k + 18446744073709551616 ^ k * c)) (fun i _ _ => 4 - (intOf i).toNat)
  case atStart => exact ⟨0, 0, fun _ => 0, by omega, rfl, rfl, by omega, fun _ _ => by show 0 < 18446744073709551616; decide, oA, oB, oR, oO, hbW, by show _ = _; simp [vl]⟩
  case round =>
    obtain ⟨k, c, h, hk, rfl, rfl, hc, hh, pA, pB, pR, pO, hb, He⟩ := hrel
    have hk0 : (0 : Int) ≤ (k : Int) := by omega
    by_cases hlt : k < 4
    · have hki : (k : Int) < 4 := by omega
      obtain ⟨s, c', hrun, hs, hc', hes⟩ := add64_any (f k) (g k) c (hf k hlt) (hg k hlt) hc
      have Hes := show Hid _ from hes
      have cA := pA.cell (A4_at f k hlt)
      have cB := pB.cell (A4_at g k hlt)
      have cO := pO.cell (A4_at h k hlt)
      have fO := pO.frozen k
      have Hst := show Hid _ from vl_add_step He.out Hes.out
      clear hes
      generalize f k = x at cA hrun
      generalize g k = y at cB hrun
      go_wp2_with fail
      go_region_with (simp only [hrun])
      all_goals go_wp2_with fail
      all_goals (
        refine ⟨⟨k + 1, c', upd h k s, by omega, by go_num, rfl, hc', fun i hi => ?_, pA.setCell_other (Ne.symm hAB) _, pB.setCell_other (Ne.symm hBB) _, pR.setCell_other (Ne.symm hRB) _, ?_, (hb.setCell hlo _).trans ((Below.refl _ _).drew), Hst.out⟩, by simp [intOf]; omega⟩
        · by_cases e : i = k
          · subst e; rw [upd_same]; exact hs
          · rw [upd_other h k s i e]; exact hh i hi
        · have := pO.setCell k (.int .u64 (s : Int))
          rw [A4_set h k s hlt] at this
          exact this)
    · have hki : ¬ (k : Int) < 4 := by omega
      have hk4 : k = 4 := by omega
      have He' := He.out
      rw [hk4] at He'
      have HE := show Hid _ from He'
      clear He' hk4
      go_upto_region 7 with fail
      go_wp2_with (first
        | refine wpList_load_own (by rfl) 54 (.tmp 7) (by rfl) bO (by rfl) (A4 h) _ pO Tryz.underlying54 (by rfl) (by rw [infoNum]; rfl) ?_
        | refine wpList_store_own (by rfl) 54 (.tmp 4) (.tmp 26) (by rfl) bR 0 (A4 h) (by rfl) (by rfl) pR (Nat.le_refl _) infoNum (A4_one _) (by rfl) ?_)
      refine bodyPost_ret (results_own_tmp Tryz.results102 _ _ bR (A4 h) _ (by rfl) (own_setCells pR rfl) Tryz.underlying54 rfl infoNum) rfl ⟨⟨h, c, rfl, hh, hc, HE.out⟩, ?_⟩
      rw [HA.out]
      exact Below.setCells _ _ _ _ hlr hb
set_option maxRecDepth 100000 in
set_option maxHeartbeats 4000000 in
theorem sub_dig (f g : Nat → Nat) (hf : ∀ i, i < 4 → f i < 18446744073709551616) (hg : ∀ i, i < 4 → g i < 18446744073709551616) (w : World) :
    Calls Tryz.prog 101 #[.agg (A4 f), .agg (A4 g)] w fun e w' => (∃ (h : Nat → Nat) (c : Nat), e = .returned (.tuple #[.agg (A4 h), .int .u64 (c : Int)]) ∧ (∀ i, i < 4 → h i < 18446744073709551616) ∧ c ≤ 1 ∧ vl f 4 + 18446744073709551616 ^ 4 * c = vl h 4 + vl g 4) ∧ Below w.heap.size w w' := by
  have hz := (zero_of_info zeroNum).1
  go_enter Tryz.func101, Tryz.ntmps101
  go_wp2_with fail
  obtain ⟨oA, oB, oR, oO, hbW⟩ := four_blocks w (A4 f) (A4 g) (A4 fun _ => 0) (A4 fun _ => 0) 54
  have hAB : w.heap.size ≠ w.heap.size + 1 + 1 + 1 := by omega
  have hBB : w.heap.size + 1 ≠ w.heap.size + 1 + 1 + 1 := by omega
  have hRB : w.heap.size + 1 + 1 ≠ w.heap.size + 1 + 1 + 1 := by omega
  have hlo : w.heap.size ≤ w.heap.size + 1 + 1 + 1 := by omega
  have hlr : w.heap.size ≤ w.heap.size + 1 + 1 := by omega
  generalize ((((w.alloc (Obj.cells (A4 f) 54)).alloc (Obj.cells (A4 g) 54)).alloc (Obj.cells (A4 fun _ => 0) 54)).alloc (Obj.cells (A4 fun _ => 0) 54)) = W at *
  generalize w.heap.size + 1 + 1 + 1 = bO at *
  generalize w.heap.size + 1 + 1 = bR at *
  generalize w.heap.size + 1 = bB at *
  obtain ⟨bA, HA⟩ : ∃ bA, Hid (w.heap.size = bA) := ⟨_, rfl⟩
  rw [HA.out] at oA hAB hlo hlr hbW ⊢
  go_loopw [8, 6] (fun i cc wr => ∃ (k c : Nat) (h : Nat → Nat), k ≤ 4 ∧ i = .int .i64 (k : Int) ∧ cc = .int .u64 (c : Int) ∧ c ≤ 1 ∧ (∀ i, i < 4 → h i < 18446744073709551616) ∧ Own wr bA (A4 f) 54 ∧ Own wr bB (A4 g) 54 ∧ Own wr bR (A4 fun _ => 0) 54 ∧ Own wr bO (A4 h) 54 ∧ Below bA w wr ∧ Hid (vl f k + 18446744073709551616 ^ k * c = vl h k + vl g k)) (fun i _ _ => 4 - (intOf i).toNat)
  case atStart => exact ⟨0, 0, fun _ => 0, by omega, rfl, rfl, by omega, fun _ _ => by show 0 < 18446744073709551616; decide, oA, oB, oR, oO, hbW, by show _ = _; simp [vl]⟩
  case round =>
    obtain ⟨k, c, h, hk, rfl, rfl, hc, hh, pA, pB, pR, pO, hb, He⟩ := hrel
    have hk0 : (0 : Int) ≤ (k : Int) := by omega
    by_cases hlt : k < 4
    · have hki : (k : Int) < 4 := by omega
      obtain ⟨s, c', hrun, hs, hc', hes⟩ := sub64_any (f k) (g k) c (hf k hlt) (hg k hlt) hc
      have Hes := show Hid _ from hes
      have cA := pA.cell (A4_at f k hlt)
      have cB := pB.cell (A4_at g k hlt)
      have cO := pO.cell (A4_at h k hlt)
      have fO := pO.frozen k
      have Hst := show Hid _ from vl_sub_step He.out Hes.out
      clear hes
      generalize f k = x at cA hrun
      generalize g k = y at cB hrun
      go_wp2_with fail
      go_region_with (simp only [hrun])
      all_goals go_wp2_with fail
      all_goals (
        refine ⟨⟨k + 1, c', upd h k s, by omega, by go_num, rfl, hc', fun i hi => ?_, pA.setCell_other (Ne.symm hAB) _, pB.setCell_other (Ne.symm hBB) _, pR.setCell_other (Ne.symm hRB) _, ?_, (hb.setCell hlo _).trans ((Below.refl _ _).drew), Hst.out⟩, by simp [intOf]; omega⟩
        · by_cases e : i = k
          · subst e; rw [upd_same]; exact hs
          · rw [upd_other h k s i e]; exact hh i hi
        · have := pO.setCell k (.int .u64 (s : Int))
          rw [A4_set h k s hlt] at this
          exact this)
    · have hki : ¬ (k : Int) < 4 := by omega
      have hk4 : k = 4 := by omega
      have He' := He.out
      rw [hk4] at He'
      have HE := show Hid _ from He'
      clear He' hk4
      go_upto_region 7 with fail
      go_wp2_with (first
        | refine wpList_load_own (by rfl) 54 (.tmp 7) (by rfl) bO (by rfl) (A4 h) _ pO Tryz.underlying54 (by rfl) (by rw [infoNum]; rfl) ?_
        | refine wpList_store_own (by rfl) 54 (.tmp 4) (.tmp 26) (by rfl) bR 0 (A4 h) (by rfl) (by rfl) pR (Nat.le_refl _) infoNum (A4_one _) (by rfl) ?_)
      refine bodyPost_ret (results_own_tmp Tryz.results101 _ _ bR (A4 h) _ (by rfl) (own_setCells pR rfl) Tryz.underlying54 rfl infoNum) rfl ⟨⟨h, c, rfl, hh, hc, HE.out⟩, ?_⟩
      rw [HA.out]
      exact Below.setCells _ _ _ _ hlr hb
end Go.Proofs.YtgibllaifnnfkaaGreatDoor
namespace Go.Proofs.YtgibllaifnnfkaaGreatDoor
open Go.RowKit
theorem add_any (a b : Nat) (ha : a < R256) (hb : b < R256) (w : World) :
    Calls Tryz.prog 102 #[.agg (numA a), .agg (numA b)] w fun e w' => (∃ d c : Nat, e = .returned (.tuple #[.agg (numA d), .int .u64 (c : Int)]) ∧ d < R256 ∧ c ≤ 1 ∧ a + b = d + R256 * c) ∧ Below w.heap.size w w' := by
  refine (add_dig (dig a) (dig b) (fun i _ => dig_lt a i) (fun i _ => dig_lt b i) w).mono ?_
  rintro e w' ⟨⟨h, c, rfl, hh, hc, he⟩, hB⟩
  rw [vl_num a ha, vl_num b hb, pow4] at he
  exact ⟨⟨vl h 4, c, by rw [A4_num h hh], vl4_lt h hh, hc, he⟩, hB⟩
theorem sub_any (a b : Nat) (ha : a < R256) (hb : b < R256) (w : World) :
    Calls Tryz.prog 101 #[.agg (numA a), .agg (numA b)] w fun e w' => (∃ d c : Nat, e = .returned (.tuple #[.agg (numA d), .int .u64 (c : Int)]) ∧ d < R256 ∧ c ≤ 1 ∧ a + R256 * c = d + b) ∧ Below w.heap.size w w' := by
  refine (sub_dig (dig a) (dig b) (fun i _ => dig_lt a i) (fun i _ => dig_lt b i) w).mono ?_
  rintro e w' ⟨⟨h, c, rfl, hh, hc, he⟩, hB⟩
  rw [vl_num a ha, vl_num b hb, pow4] at he
  exact ⟨⟨vl h 4, c, by rw [A4_num h hh], vl4_lt h hh, hc, he⟩, hB⟩
theorem sub_big {a b y : Nat} (ha : a < R256) (hb : b < R256) (hy : a = y + b) (w : World) :
    Calls Tryz.prog 101 #[.agg (numA a), .agg (numA b)] w fun e w' => e = .returned (.tuple #[.agg (numA y), .int .u64 0]) ∧ Below w.heap.size w w' := by
  refine (sub_any a b ha hb w).mono ?_
  rintro e w' ⟨⟨d, c, rfl, hd, hc, he⟩, hB⟩
  have : c = 0 ∨ c = 1 := by omega
  rcases this with rfl | rfl
  · obtain rfl : d = y := by omega
    exact ⟨rfl, hB⟩
  · omega
set_option maxRecDepth 100000 in
set_option maxHeartbeats 1000000 in
theorem less_any (a b : Nat) (ha : a < R256) (hb : b < R256) (w : World) : Calls Tryz.prog 64 #[.agg (numA a), .agg (numA b)] w fun e w' => e = .returned (.bool (decide (a < b))) ∧ Below w.heap.size w w' := by
  have hz := (zero_of_info zeroNum).1
  go_enter Tryz.func64, Tryz.ntmps64
  go_upto_region 1 with fail
  have oA := (own_new w (numA a) 54).alloc (.cells (numA b) 54)
  have oB := own_new (w.alloc (.cells (numA a) 54)) (numA b) 54
  rw [World.size_alloc] at oB
  have hbW := bel (alloc_below w (.cells (numA a) 54)) (alloc_below _ (.cells (numA b) 54))
  generalize (w.alloc (.cells (numA a) 54)).alloc (.cells (numA b) 54) = W at *
  go_wp2_with (first
    | refine wpList_load_own (by rfl) 54 (.tmp 2) (by rfl) w.heap.size (by rfl) (numA a) _ oA Tryz.underlying54 (by rfl) (numA_info a) ?_
    | refine wpList_load_own (by rfl) 54 (.tmp 3) (by rfl) (w.heap.size + 1) (by rfl) (numA b) _ oB Tryz.underlying54 (by rfl) (numA_info b) ?_)
  refine (sub_any a b ha hb W).mono ?_
  rintro e w1 ⟨⟨d, c, rfl, hd, hc, he⟩, hb1⟩
  have hb2 := bel hbW hb1
  have hbo := bor_lt hd hc he
  clear he
  obtain ⟨l, Hl⟩ : ∃ l, Hid (decide (a < b) = l) := ⟨_, rfl⟩
  rw [Hl.out] at hbo
  clear hbW hb1 oA oB
  go_wp2_with (refine wpList_store_new (by rfl) 54 (.tmp 5) (.tmp 11) (by rfl) _ (numA d) (by rfl) (by rfl) (numA_info d) (by rfl) (numA_one d) (by rfl) ?_)
  go_ret
  rw [Hl.out]
  exact ⟨rfl, bel hb2 (alloc_below _ _)⟩
end Go.Proofs.YtgibllaifnnfkaaGreatDoor
namespace Go.Proofs.YtgibllaifnnfkaaGreatDoor
open Go.RowKit
set_option maxRecDepth 100000 in
theorem P_any (w : World) : Calls Tryz.prog 67 #[] w fun e w' => e = .returned (.agg (numA pp)) ∧ Below w.heap.size w w' := by
  have hz := (zero_of_info zeroLit).1
  obtain ⟨A, HA⟩ : ∃ A, Hid (numA pp = A) := ⟨_, rfl⟩
  have hc : Hid (A = _) := HA.out.symm.trans P_cells
  have hi : (Tryz.prog.info? 54).map (·.size) = some A.size := by rw [← HA.out]; exact numA_info pp
  have h1 : A.all (·.oneCell') = true := by rw [← HA.out]; exact numA_one pp
  have hs : 4 = A.size := by rw [← HA.out]; exact (numA_size pp).symm
  rw [HA.out]
  clear HA
  go_enter Tryz.func67, Tryz.ntmps67
  go_upto_region 1 with fail
  go_wp2_with (refine wpList_store_new (by rfl) 54 (.tmp 0) (.tmp 1) (by rfl) _ A (by rfl) (by rw [hc.out]; rfl) hi hs h1 (by rfl) ?_)
  refine bodyPost_ret (results_own Tryz.results67 _ _ w.heap.size A _ (by rfl) (own_new w A 54) Tryz.underlying54 rfl hi) rfl ⟨rfl, alloc_below _ _⟩
end Go.Proofs.YtgibllaifnnfkaaGreatDoor
namespace Go.Proofs.YtgibllaifnnfkaaGreatDoor
open Go.RowKit
set_option maxRecDepth 100000 in
set_option maxHeartbeats 4000000 in
theorem mod_any (a : Nat) (ha : a < R256) (w : World) : Calls Tryz.prog 103 #[.agg (numA a)] w fun e w' => e = .returned (.agg (numA (a % pp))) ∧ Below w.heap.size w w' := by
  have hz := (zero_of_info zeroNum).1
  go_enter Tryz.func103, Tryz.ntmps103
  go_wp2_with fail
  have hK0 := ((Kp.nil w).alloc (numA a) 54).alloc (numA 0) 54
  rw [World.size_alloc] at hK0
  rw [← zero_num]
  generalize (w.alloc (.cells (numA a) 54)).alloc (.cells (numA 0) 54) = W at *
  obtain ⟨bX, HX⟩ : ∃ bX, Hid (w.heap.size = bX) := ⟨_, rfl⟩
  obtain ⟨bR, HR⟩ : ∃ bR, Hid (bX + 1 = bR) := ⟨_, rfl⟩
  have hne : bX ≠ bR := by have := HR.out; omega
  have hle : w.heap.size ≤ bX := by rw [HX.out]; omega
  have hle' : w.heap.size ≤ bR := by have := HR.out; omega
  rw [HX.out, HR.out] at hK0 ⊢
  go_loopw [3] (fun i wr => ∃ (k x : Nat), k ≤ 3 ∧ i = .int .i64 (k : Int) ∧ x < R256 ∧ Hid (x % pp = a % pp ∧ (x < pp ∨ x + k * pp ≤ a)) ∧ Kp [(bX, numA x, 54), (bR, numA 0, 54)] w wr) (fun i _ => 3 - (intOf i).toNat)
  case atStart => exact ⟨0, a, by omega, rfl, ha, ⟨rfl, .inr (by omega)⟩, hK0.sub (by simp)⟩
  case round =>
    obtain ⟨k, x, hk, rfl, hx, Hm, hKr⟩ := hrel
    have hk0 : (0 : Int) ≤ (k : Int) := by omega
    by_cases hlt : k < 3
    · have hki : (k : Int) < 3 := by omega
      go_upto_region 4 with fail
      refine wp_region_lv 19 (fun _ => [(bX, numA x, 54), (bR, numA 0, 54)]) [.v (.agg (numA x)), .v (.agg (numA pp)), .v (.bool (decide (x < pp))), .v (.bool (!decide (x < pp)))] hKr (by kernel_rfl) (by kernel_rfl) (by kernel_rfl) (by rfl) ?_ ?_
      · exact .c (.ld bX (fun _ => .head _) Tryz.underlying54 rfl (numA_info x)) <| .c (.ca fun _ _ _ => P_any _) <| .c (.ca fun _ _ _ => less_any x pp hx (by decide) _) <| .c (.p1 10 (.bool (decide (x < pp)))) .nil
      · intro _ wq hJ _
        have hKq := hJ.1
        simp only [putL, Lv.val, Act.put, List.setIfInBounds_toArray, List.set_cons_succ, List.set_cons_zero]
        by_cases hxp : x < pp
        · have hd : decide (x < pp) = true := decide_eq_true hxp
          have Hxp := show Hid _ from hxp
          rw [hd]
          clear hxp hd
          go_wp2_with fail
          exact ⟨⟨k + 1, x, by omega, by go_num, hx, ⟨Hm.out.1, .inl Hxp.out⟩, hKq⟩, by simp [intOf]; omega⟩
        · have hd : decide (x < pp) = false := decide_eq_false hxp
          obtain ⟨y, Hy⟩ : ∃ y, Hid (x = y + pp) := ⟨x - pp, by show _ = _; omega⟩
          rw [hd]
          clear hxp hd
          go_upto_region 5 with fail
          refine wp_region_lv 19 (fun L => [(bX, if L 6 = true then numA y else numA x, 54), (bR, numA 0, 54)]) [.v (.agg (numA x)), .v (.agg (numA pp)), .v (.tuple #[.agg (numA y), .int .u64 0]), .v (.tuple #[.agg (numA y), .int .u64 0]), .v (.agg (numA y)), .v (.int .u64 0), .o] hKq (by kernel_rfl) (by kernel_rfl) (by kernel_rfl) (by rfl) ?_ ?_
          · exact .c (.lq bX 6 false (fun L h => by rw [h]; exact .head _) Tryz.underlying54 rfl (numA_info x)) <| .c (.ca fun _ _ _ => P_any _) <| .c (.ca fun _ _ _ => sub_big hx (by decide) Hy.out _) <| .c (.p1 15 (.tuple #[.agg (numA y), .int .u64 0])) <| .c (.p1 12 (.tuple #[.agg (numA y), .int .u64 0])) <| .c (.p1 12 (.tuple #[.agg (numA y), .int .u64 0])) <| .c (.sk bX (.hr (fun _ => rfl) (fun _ => rfl) (fun _ => by simp; omega)) (by omega) (numA_info y) (numA_one y)) .nil
          · intro _ wz hJ _
            have hKz : Kp [(bX, numA y, 54), (bR, numA 0, 54)] w wz := hJ.1
            simp only [putL, Lv.val, Act.put, List.setIfInBounds_toArray, List.set_cons_succ, List.set_cons_zero]
            go_wp2_with fail
            have h1 := Hm.out
            have h2 := Hy.out
            exact ⟨⟨k + 1, y, by omega, by go_num, by omega, ⟨by rw [← h1.1, h2, Nat.add_mod_right], .inr (by rw [Nat.add_mul]; omega)⟩, hKz⟩, by simp [intOf]; omega⟩
    · have hki : ¬ (k : Int) < 3 := by omega
      have Hx : Hid (x = a % pp) := by
        show _ = _
        have h1 := Hm.out
        have h2 := R256_lt
        have hk3 : k = 3 := by omega
        rw [hk3] at h1
        rw [← h1.1, Nat.mod_eq_of_lt]
        rcases h1.2 with h | h
        · exact h
        · omega
      go_upto_region 6 with fail
      go_wp2_with (first
        | refine wpList_load_own (by rfl) 54 (.tmp 1) (by rfl) bX (by rfl) (numA x) _ (hKr.at bX (numA x) 54 (by simp)) Tryz.underlying54 (by rfl) (numA_info x) ?_
        | refine wpList_store_own (by rfl) 54 (.tmp 2) (.tmp 18) (by rfl) bR 0 (numA x) (by rfl) (by rfl) (hKr.at bR (numA 0) 54 (by simp)) (Nat.le_refl _) (numA_info x) (numA_one x) (by rfl) ?_)
      refine bodyPost_ret (results_own Tryz.results103 _ _ bR (numA x) _ (by rfl) (own_setCells (hKr.at bR (numA 0) 54 (by simp)) rfl) Tryz.underlying54 rfl (numA_info x)) rfl ⟨by rw [Hx.out], ?_⟩
      exact Below.setCells _ _ _ _ hle' hKr.2
end Go.Proofs.YtgibllaifnnfkaaGreatDoor
