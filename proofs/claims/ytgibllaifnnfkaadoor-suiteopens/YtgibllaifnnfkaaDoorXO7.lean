/- Of the texts F10, F11, E11M, F12: what the card of this claim reaches. -/
import Derived.Test.YtgibllaifnnfkaaDoorXO6
import Derived.Test.YtgibllaifnnfkaaDoorXO4
import Derived.Test.YtgibllaifnnfkaaDoorXO3
import Derived.Test.YtgibllaifnnfkaaDoorXO2
import Derived.Laws.StructEq
namespace Go.Proofs.YtgibllaifnnfkaaDoor
open Go.RowKit
def tsq (n : Nat) : Nat → Nat
  | 0 => n
  | k + 1 => tmul (tsq n k) (tsq n k)
theorem tsq_lt {n : Nat} (hn : n < R256) : ∀ k, tsq n k < R256
  | 0 => hn
  | k + 1 => tmul_lt (tsq_lt hn k) (tsq_lt hn k)
def tones (n c : Nat) : Nat :=
  if c ≤ 1 then n else
  if c % 2 = 1 then tmul (tsq (tmul (tsq (tones n (c / 2)) (c / 2)) (tones n (c / 2))) 1) n else tmul (tsq (tones n (c / 2)) (c / 2)) (tones n (c / 2))
termination_by c
decreasing_by all_goals omega
theorem tones_one {n c : Nat} (h : c ≤ 1) : tones n c = n := by rw [tones, if_pos h]
theorem tones_odd {n c h x : Nat} (h1 : ¬ c ≤ 1) (h2 : c % 2 = 1) (hh : c / 2 = h) (hx : tones n h = x) : tones n c = tmul (tsq (tmul (tsq x h) x) 1) n := by rw [tones, if_neg h1, if_pos h2, hh, hx]
theorem tones_even {n c h x : Nat} (h1 : ¬ c ≤ 1) (h2 : ¬ c % 2 = 1) (hh : c / 2 = h) (hx : tones n h = x) : tones n c = tmul (tsq x h) x := by rw [tones, if_neg h1, if_neg h2, hh, hx]
theorem tones_lt {n : Nat} (hn : n < R256) (c : Nat) : tones n c < R256 := by
  induction c using Nat.strongRecOn with
  | _ c ih =>
    by_cases h1 : c ≤ 1
    · rw [tones_one h1]; exact hn
    · have hx := ih (c / 2) (by omega)
      by_cases h2 : c % 2 = 1
      · rw [tones_odd h1 h2 rfl rfl]; exact tmul_lt (tsq_lt (tmul_lt (tsq_lt hx _) hx) _) hn
      · rw [tones_even h1 h2 rfl rfl]; exact tmul_lt (tsq_lt hx _) hx
def PM (n i x : Nat) : Prop := x % pp = n ^ i % pp
theorem PM.one (n : Nat) : PM n 1 n := by unfold PM; rw [Nat.pow_one]
theorem PM.mul {n i j x y : Nat} (hx : PM n i x) (hy : PM n j y) : PM n (i + j) (tmul x y) := by
  unfold PM at *
  rw [tmul_mod, Nat.mul_mod, hx, hy, ← Nat.mul_mod, Nat.pow_add]
theorem PM.sq {n i x : Nat} (hx : PM n i x) : ∀ k, PM n (i * 2 ^ k) (tsq x k)
  | 0 => by rw [Nat.pow_zero, Nat.mul_one]; exact hx
  | k + 1 => by
    have h := PM.mul (PM.sq hx k) (PM.sq hx k)
    rw [Nat.pow_succ, ← Nat.mul_assoc, Nat.mul_two]
    exact h
theorem ones_exp (h : Nat) : (2 ^ h - 1) * 2 ^ h + (2 ^ h - 1) = 2 ^ (2 * h) - 1 := by
  have h1 : 0 < 2 ^ h := Nat.pow_pos (by decide)
  obtain ⟨q, hq⟩ : ∃ q, 2 ^ h = q + 1 := ⟨2 ^ h - 1, by omega⟩
  rw [Nat.two_mul, Nat.pow_add, hq, Nat.add_sub_cancel, Nat.add_mul, Nat.mul_add, Nat.mul_add]
  omega
theorem tones_pow (n c : Nat) (hc : 1 ≤ c) : PM n (2 ^ c - 1) (tones n c) := by
  induction c using Nat.strongRecOn with
  | _ c ih =>
    by_cases h1 : c ≤ 1
    · rw [tones_one h1, show c = 1 by omega]; exact PM.one n
    · have hx := ih (c / 2) (by omega) (by omega)
      have hp := PM.mul (PM.sq hx (c / 2)) hx
      rw [ones_exp] at hp
      by_cases h2 : c % 2 = 1
      · rw [tones_odd h1 h2 rfl rfl]
        have := PM.mul (PM.sq hp 1) (PM.one n)
        have e : (2 ^ (2 * (c / 2)) - 1) * 2 ^ 1 + 1 = 2 ^ c - 1 := by
          have h3 : 2 ^ c = 2 ^ (2 * (c / 2)) * 2 := by rw [← Nat.pow_succ]; congr 1; omega
          have h4 : 0 < 2 ^ (2 * (c / 2)) := Nat.pow_pos (by decide)
          rw [h3]; omega
        rw [e] at this
        exact this
      · rw [tones_even h1 h2 rfl rfl]
        rw [show 2 * (c / 2) = c by omega] at hp
        exact hp
set_option maxRecDepth 100000 in
set_option maxHeartbeats 8000000 in
theorem squared_any (n k : Nat) (hn : n < R256) (hk : k < 9223372036854775808) (w : World) :
    Calls Tryd.prog 61 #[.agg (numA (n)), .int .i64 (k : Int)] w fun r w' => r = .returned (.agg (numA (tsq n k))) ∧ Below w.heap.size w w' := by
  have hz := (zero_of_info zeroFN).1
  go_enter Tryd.func61, Tryd.ntmps61
  go_wp2_with fail
  have hK0 := ((Kp.nil w).alloc (numA n) 97).alloc (Q4 0 0 0 0) 97
  rw [World.size_alloc] at hK0
  rw [Q4_zero]
  generalize (w.alloc (.cells (numA n) 97)).alloc (.cells (Q4 0 0 0 0) 97) = W at *
  obtain ⟨bN, H1⟩ : ∃ bN, Hid (w.heap.size = bN) := ⟨_, rfl⟩
  obtain ⟨bR, H2⟩ : ∃ bR, Hid (bN + 1 = bR) := ⟨_, rfl⟩
  have hleN : w.heap.size ≤ bN := Nat.le_of_eq H1.out
  have hleR : w.heap.size ≤ bR := by have := H1.out; have := H2.out; omega
  have nR : bR ≠ bN := by have := H2.out; omega
  rw [H1.out, H2.out] at hK0 ⊢
  go_loopw [6] (fun ii wr => ∃ i : Nat, i ≤ k ∧ ii = .int .i64 (i : Int) ∧ Kp [(bN, numA (tsq n i), 97), (bR, Q4 0 0 0 0, 97)] w wr) (fun ii _ => k - (intOf ii).toNat)
  case atStart => exact ⟨0, by omega, rfl, hK0.sub (by simp [tsq])⟩
  case round =>
    obtain ⟨i, hi, rfl, hK⟩ := hrel
    have hi0 : (0 : Int) ≤ (i : Int) := by omega
    have hx := tsq_lt hn i
    obtain ⟨x, Hx⟩ : ∃ x, Hid (tsq n i = x) := ⟨_, rfl⟩
    rw [Hx.out] at hK hx
    by_cases hlt : i < k
    · have hlti : (i : Int) < (k : Int) := by omega
      go_wp2_with (refine wpList_load_own (by rfl) 97 (.tmp 2) (by rfl) bN (by rfl) (numA x) _ hK.h1 Tryd.underlying97 (by rfl) infoFN ?_)
      refine (ptimes_any x x hx hx _).mono ?_
      rintro r W1 ⟨rfl, bw⟩
      have hK := hK.below bw
      go_wp2_with (refine wpList_store_own (by rfl) 97 (.tmp 2) (.tmp 10) (by rfl) bN 0 (numA (tmul x x)) (by rfl) (by rfl) hK.h1 (Nat.le_refl _) infoFN (numA_one _) (by rfl) ?_)
      refine ⟨⟨i + 1, by omega, by go_num, ?_⟩, by simp [intOf]; omega⟩
      rw [show tsq n (i + 1) = tmul x x by rw [tsq, Hx.out]]
      exact Kp.set (A' := numA (tmul x x)) hK (by simp; omega) hleN rfl
    · have hlti : ¬ (i : Int) < (k : Int) := by omega
      have He : Hid (x = tsq n k) := by show _ = _; rw [← Hx.out, show i = k by omega]
      go_upto_region 5 with fail
      go_wp2_with (first
        | refine wpList_load_own (by rfl) 97 (.tmp 2) (by rfl) bN (by rfl) (numA x) _ hK.h1 Tryd.underlying97 (by rfl) infoFN ?_
        | refine wpList_store_own (by rfl) 97 (.tmp 4) (.tmp 12) (by rfl) bR 0 (numA x) (by rfl) (by rfl) hK.h2 (Nat.le_refl _) infoFN (numA_one _) (by rfl) ?_)
      exact bodyPost_ret (results_own Tryd.results61 _ _ bR (numA x) _ (by rfl) (own_setCells hK.h2 rfl) Tryd.underlying97 rfl infoFN) rfl ⟨by rw [He.out], Below.setCells _ _ _ _ hleR hK.2⟩
set_option maxRecDepth 100000 in
set_option maxHeartbeats 16000000 in
theorem ones_any (n : Nat) (hn : n < R256) : ∀ c : Nat, 1 ≤ c → c < 9223372036854775808 → ∀ w : World,
    Calls Tryd.prog 64 #[.agg (numA (n)), .int .i64 (c : Int)] w fun r w' => r = .returned (.agg (numA (tones n c))) ∧ Below w.heap.size w w' := by
  intro c
  induction c using Nat.strongRecOn with
  | _ c ih =>
  intro hc hc63 w
  have hz := (zero_of_info zeroFN).1
  go_enter Tryd.func64, Tryd.ntmps64
  go_upto_region 1 with fail
  have hK := ((Kp.nil w).alloc (numA n) 97).alloc (Q4 0 0 0 0) 97
  rw [World.size_alloc] at hK
  rw [Q4_zero]
  generalize (w.alloc (.cells (numA n) 97)).alloc (.cells (Q4 0 0 0 0) 97) = W at *
  obtain ⟨bN, H1⟩ : ∃ bN, Hid (w.heap.size = bN) := ⟨_, rfl⟩
  obtain ⟨bR, H2⟩ : ∃ bR, Hid (bN + 1 = bR) := ⟨_, rfl⟩
  have hleN : w.heap.size ≤ bN := Nat.le_of_eq H1.out
  have hleR : w.heap.size ≤ bR := by have := H1.out; have := H2.out; omega
  have nR : bN ≠ bR := by have := H2.out; omega
  rw [H1.out, H2.out] at hK ⊢
  have hK : Kp [(bN, numA n, 97), (bR, Q4 0 0 0 0, 97)] w W := hK.sub (by simp)
  by_cases h1 : c ≤ 1
  · have hci : (c : Int) = 1 := by omega
    have He : Hid (tones n c = n) := tones_one h1
    go_wp2_with (first
      | refine wpList_load_own (by rfl) 97 (.tmp 2) (by rfl) bN (by rfl) (numA n) _ hK.h1 Tryd.underlying97 (by rfl) infoFN ?_
      | refine wpList_store_own (by rfl) 97 (.tmp 4) (.tmp 9) (by rfl) bR 0 (numA n) (by rfl) (by rfl) hK.h2 (Nat.le_refl _) infoFN (numA_one _) (by rfl) ?_)
    exact bodyPost_ret (results_own Tryd.results64 _ _ bR (numA n) _ (by rfl) (own_setCells hK.h2 rfl) Tryd.underlying97 rfl infoFN) rfl ⟨by rw [He.out], Below.setCells _ _ _ _ hleR hK.2⟩
  · have hci : ¬ (c : Int) = 1 := by omega
    have hdv : (c : Int).tdiv 2 = ((c / 2 : Nat) : Int) := by rw [Int.tdiv_eq_ediv_of_nonneg (by omega)]; omega
    have hmd : (c : Int).tmod 2 = ((c % 2 : Nat) : Int) := by rw [Int.tmod_eq_emod_of_nonneg (by omega)]; omega
    have hrec := ih (c / 2) (by omega) (by omega) (by omega)
    have hx := tones_lt hn (c / 2)
    have hh63 : c / 2 < 9223372036854775808 := by omega
    obtain ⟨h, Hh⟩ : ∃ h, Hid (c / 2 = h) := ⟨_, rfl⟩
    rw [Hh.out] at hdv hrec hx hh63
    obtain ⟨x, Hx⟩ : ∃ x, Hid (tones n h = x) := ⟨_, rfl⟩
    rw [Hx.out] at hrec hx
    have H1c := show Hid _ from h1
    have hwr : IntKind.i64.wrap (h : Int) = (h : Int) := by simp [IntKind.wrap, IntKind.bits, IntKind.signed]; omega
    clear h1 ih
    go_wp2_with (refine wpList_load_own (by rfl) 97 (.tmp 2) (by rfl) bN (by rfl) (numA n) _ hK.h1 Tryd.underlying97 (by rfl) infoFN ?_)
    refine (hrec W).mono ?_
    rintro r W1 ⟨rfl, bw⟩
    have hK := hK.below bw
    have lN := hK.h1.lt
    have lR := hK.h2.lt
    go_upto_region 4 with (refine wpList_store_new (by rfl) 97 (.tmp 5) (.tmp 13) (by rfl) _ (numA x) (by rfl) (by rfl) infoFN rfl (numA_one _) (by rfl) ?_)
    have hK := hK.alloc (numA x) 97
    generalize W1.alloc (.cells (numA x) 97) = W2 at *
    obtain ⟨bF, H3⟩ : ∃ bF, Hid (W1.heap.size = bF) := ⟨_, rfl⟩
    rw [H3.out] at hK lN lR ⊢
    refine wp_region_lv 28 (fun _ => [(bF, numA x, 97), (bN, numA n, 97), (bR, Q4 0 0 0 0, 97)]) [.v (.agg (numA (x))), .v (.int .i64 (c : Int)), .v (.int .i64 (h : Int)), .v (.agg (numA (tsq x h))), .v (.agg (numA (x))), .v (.agg (numA (tmul (tsq x h) x))), .mk (Q4 0 0 0 0) (numA (tmul (tsq x h) x)) 97 7, .o] hK (by kernel_rfl) (by kernel_rfl) (by kernel_rfl) (by rfl) ?_ ?_
    · exact .c (.ld bF (fun _ => .head _) Tryd.underlying97 rfl infoFN) <| .c (.p1 1 (.int .i64 (c : Int))) <| .c (.p1 15 (.int .i64 (c : Int))) <| .c (.ca fun _ _ _ => squared_any x h hx hh63 _) <| .c (.ld bF (fun _ => .head _) Tryd.underlying97 rfl infoFN) <| .c (.ca fun _ _ _ => ptimes_any _ _ (tsq_lt hx h) hx _) <| .c (.al hz) <| .c (.st 6 infoFN (numA_one _)) .nil
    · intro vs wq hJ hf
      obtain ⟨g, hg⟩ := hf 6 _ _ rfl rfl
      obtain ⟨hgl, hgn, hog⟩ := hJ.got 6 hg
      have hK := hJ.1.cons hog
      simp only [putL, Lv.val, Nat.zero_add, Nat.reduceAdd, hg, Act.put, List.setIfInBounds_toArray, List.set_cons_succ, List.set_cons_zero]
      have hy := tmul_lt (tsq_lt hx h) hx
      obtain ⟨y, Hy⟩ : ∃ y, Hid (tmul (tsq x h) x = y) := ⟨_, rfl⟩
      rw [Hy.out] at hK hy ⊢
      have ngF : bF ≠ g := hgn (bF, numA x, 97) (by simp)
      have ngN : bN ≠ g := hgn (bN, numA n, 97) (by simp)
      have ngR : bR ≠ g := hgn (bR, Q4 0 0 0 0, 97) (by simp)
      by_cases h2 : c % 2 = 1
      · have hmi : ((c % 2 : Nat) : Int) = 1 := by omega
        have He : Hid (tones n c = tmul (tsq y 1) n) := by show _ = _; rw [tones_odd H1c.out h2 Hh.out Hx.out, Hy.out]
        have HM := show Hid _ from hmd.trans hmi
        rw [hmi] at hmd
        go_upto_region 6 with fail
        refine wp_region_lv 28 (fun L => [(g, if L 4 = true then numA (tmul (tsq y 1) n) else numA y, 97), (bF, numA x, 97), (bN, numA n, 97), (bR, Q4 0 0 0 0, 97)]) [.v (.agg (numA (y))), .v (.agg (numA (tsq y 1))), .v (.agg (numA (n))), .v (.agg (numA (tmul (tsq y 1) n))), .o] hK (by kernel_rfl) (by kernel_rfl) (by kernel_rfl) (by rfl) ?_ ?_
        · exact .c (.lq g 4 false (fun L h => by rw [h]; exact .head _) Tryd.underlying97 rfl infoFN) <| .c (.ca fun _ _ _ => squared_any y 1 hy (by decide) _) <| .c (.ld bN (fun _ => .tail _ (.tail _ (.head _))) Tryd.underlying97 rfl infoFN) <| .c (.ca fun _ _ _ => ptimes_any _ _ (tsq_lt hy 1) hn _) <| .c (.sk g (.hr (fun _ => rfl) (fun _ => rfl) (fun _ => by simp; omega)) hgl infoFN (numA_one _)) .nil
        · intro _ wz hJ _
          have hK : Kp [(g, numA (tmul (tsq y 1) n), 97), (bF, numA x, 97), (bN, numA n, 97), (bR, Q4 0 0 0 0, 97)] w wz := hJ.1
          simp only [putL, Lv.val, Act.put, List.setIfInBounds_toArray, List.set_cons_succ, List.set_cons_zero]
          go_upto_region 7 with fail
          have hK : Kp [(g, numA (tmul (tsq y 1) n), 97), (bF, numA x, 97), (bN, numA n, 97), (bR, Q4 0 0 0 0, 97)] w wz := hK
          go_wp2_with (first
            | refine wpList_load_own (by rfl) 97 (.tmp 6) (by rfl) g (by rfl) (numA (tmul (tsq y 1) n)) _ hK.h1 Tryd.underlying97 (by rfl) infoFN ?_
            | refine wpList_store_own (by rfl) 97 (.tmp 4) (.tmp 27) (by rfl) bR 0 (numA (tmul (tsq y 1) n)) (by rfl) (by rfl) hK.h4 (Nat.le_refl _) infoFN (numA_one _) (by rfl) ?_)
          exact bodyPost_ret (results_own Tryd.results64 _ _ bR (numA (tmul (tsq y 1) n)) _ (by rfl) (own_setCells hK.h4 rfl) Tryd.underlying97 rfl infoFN) rfl ⟨by rw [He.out], Below.setCells _ _ _ _ hleR hK.2⟩
      · have hmi : ¬ ((c % 2 : Nat) : Int) = 1 := by omega
        have He : Hid (tones n c = y) := by show _ = _; rw [tones_even H1c.out h2 Hh.out Hx.out, Hy.out]
        go_upto_region 7 with fail
        go_wp2_with (first
          | refine wpList_load_own (by rfl) 97 (.tmp 6) (by rfl) g (by rfl) (numA y) _ hK.h1 Tryd.underlying97 (by rfl) infoFN ?_
          | refine wpList_store_own (by rfl) 97 (.tmp 4) (.tmp 27) (by rfl) bR 0 (numA y) (by rfl) (by rfl) hK.h4 (Nat.le_refl _) infoFN (numA_one _) (by rfl) ?_)
        exact bodyPost_ret (results_own Tryd.results64 _ _ bR (numA y) _ (by rfl) (own_setCells hK.h4 rfl) Tryd.underlying97 rfl infoFN) rfl ⟨by rw [He.out], Below.setCells _ _ _ _ hleR hK.2⟩
end Go.Proofs.YtgibllaifnnfkaaDoor
namespace Go.Proofs.YtgibllaifnnfkaaDoor
open Go.RowKit
def FInv (T : World → Prop) : Prop := ∀ a, a < R256 → ∀ w, T w → Calls Tryd.prog 45 #[.agg (B32 (bdig a))] w fun x w' => x = .returned (.agg (B32 (bdig (finv a)))) ∧ Below w.heap.size w w'
theorem finvA {T : World → Prop} (hI : FInv T) {a c : Nat} (ha : a < R256) (hc : finv a = c) (w : World) (hT : T w) : Calls Tryd.prog 45 #[.agg (B32 (bdig a))] w fun x w' => x = .returned (.agg (B32 (bdig c))) ∧ Below w.heap.size w w' := by
  rw [← hc]; exact hI a ha w hT
theorem inv_exp : (2 ^ 250 - 1) * 2 ^ 5 + (1 * 2 ^ 1 * 2 ^ 2 + 1 * 2 ^ 1 + 1) = pp - 2 := by decide
theorem inv_power {a o s e : Nat} (ho : tones a 250 = o) (hs : tsq a 1 = s) (he : tmul (tmul (tsq s 2) s) a = e) : tmul (tsq o 5) e % pp = finv a := by
  have h1 : PM a (2 ^ 250 - 1) o := by rw [← ho]; exact tones_pow a 250 (by decide)
  have h2 : PM a (1 * 2 ^ 1) s := by rw [← hs]; exact PM.sq (PM.one a) 1
  have h3 : PM a (1 * 2 ^ 1 * 2 ^ 2 + 1 * 2 ^ 1 + 1) e := by rw [← he]; exact PM.mul (PM.mul (PM.sq h2 2) h2) (PM.one a)
  have h4 := PM.mul (PM.sq h1 5) h3
  rw [inv_exp] at h4
  exact h4
set_option maxRecDepth 100000 in
set_option maxHeartbeats 16000000 in
theorem finv_p : FInv TP := by
  intro a ha w hT
  have hz := (zero_of_info zeroB32).1
  have hz2 := (zero_of_info zeroFN).1
  have hs := tsq_lt ha 1
  obtain ⟨s, Hs⟩ : ∃ s, Hid (tsq a 1 = s) := ⟨_, rfl⟩
  rw [Hs.out] at hs
  have he := tmul_lt (tmul_lt (tsq_lt hs 2) hs) ha
  obtain ⟨e, He⟩ : ∃ e, Hid (tmul (tmul (tsq s 2) s) a = e) := ⟨_, rfl⟩
  rw [He.out] at he
  have ho5 := tones_lt ha 250
  obtain ⟨o, Ho⟩ : ∃ o, Hid (tones a 250 = o) := ⟨_, rfl⟩
  rw [Ho.out] at ho5
  have Hfin : Hid (tmul (tsq o 5) e % pp = finv a) := inv_power Ho.out Hs.out He.out
  obtain ⟨x, Hx⟩ : ∃ x, Hid (finv a = x) := ⟨_, rfl⟩
  rw [Hx.out]
  go_enter Tryd.func45, Tryd.ntmps45
  go_upto_region 1 with fail
  have hK := ((Kp.nil w).alloc (B32 (bdig a)) 22).alloc (B32 fun _ => 0) 22
  rw [World.size_alloc] at hK
  generalize (w.alloc (.cells (B32 (bdig a)) 22)).alloc (.cells (B32 fun _ => 0) 22) = W at *
  obtain ⟨bA, H1⟩ : ∃ bA, Hid (w.heap.size = bA) := ⟨_, rfl⟩
  obtain ⟨bR, H2⟩ : ∃ bR, Hid (bA + 1 = bR) := ⟨_, rfl⟩
  have hleR : w.heap.size ≤ bR := by have := H1.out; have := H2.out; omega
  rw [H1.out, H2.out] at hK ⊢
  go_wp2_with (refine wpList_load_own (by rfl) 22 (.tmp 1) (by rfl) bA (by rfl) (B32 (bdig a)) _ hK.h2 Tryd.underlying22 (by rfl) (B32_info _) ?_)
  refine (read_any a W).mono ?_
  rintro r W1 ⟨rfl, bw⟩
  have hK := hK.below bw
  have lR := hK.h1.lt
  go_upto_region 2 with (refine wpList_store_new (by rfl) 97 (.tmp 3) (.tmp 7) (by rfl) _ (numA a) (by rfl) (by rfl) infoFN rfl (numA_one _) (by rfl) ?_)
  have hK := hK.alloc (numA a) 97
  generalize W1.alloc (.cells (numA a) 97) = W2 at *
  obtain ⟨bN, H3⟩ : ∃ bN, Hid (W1.heap.size = bN) := ⟨_, rfl⟩
  rw [H3.out] at hK lR ⊢
  have hK : Kp [(bN, numA a, 97), (bR, B32 fun _ => 0, 22)] w W2 := hK.sub (by simp)
  go_wp2_with (refine wpList_load_own (by rfl) 97 (.tmp 3) (by rfl) bN (by rfl) (numA a) _ hK.h1 Tryd.underlying97 (by rfl) infoFN ?_)
  refine (squared_any a 1 ha (by decide) W2).mono ?_
  rintro r W3 ⟨rfl, bw⟩
  rw [Hs.out]
  have hK := hK.below bw
  go_upto_region 3 with (refine wpList_store_new (by rfl) 97 (.tmp 4) (.tmp 9) (by rfl) _ (numA s) (by rfl) (by rfl) infoFN rfl (numA_one _) (by rfl) ?_)
  have hK := hK.alloc (numA s) 97
  generalize W3.alloc (.cells (numA s) 97) = W4 at *
  obtain ⟨bS, H4⟩ : ∃ bS, Hid (W3.heap.size = bS) := ⟨_, rfl⟩
  rw [H4.out] at hK ⊢
  refine wp_region_lv 22 (fun _ => [(bS, numA s, 97), (bN, numA a, 97), (bR, B32 fun _ => 0, 22)]) [.v (.agg (numA (s))), .v (.agg (numA (tsq s 2))), .v (.agg (numA (s))), .v (.agg (numA (tmul (tsq s 2) s))), .v (.agg (numA (a))), .v (.agg (numA (tmul (tmul (tsq s 2) s) a))), .mk (Q4 0 0 0 0) (numA (tmul (tmul (tsq s 2) s) a)) 97 7, .o] hK (by kernel_rfl) (by kernel_rfl) (by kernel_rfl) (by rfl) ?_ ?_
  · exact .c (.ld bS (fun _ => .head _) Tryd.underlying97 rfl infoFN) <| .c (.ca fun _ _ _ => squared_any s 2 hs (by decide) _) <| .c (.ld bS (fun _ => .head _) Tryd.underlying97 rfl infoFN) <| .c (.ca fun _ _ _ => ptimes_any _ _ (tsq_lt hs 2) hs _) <| .c (.ld bN (fun _ => .tail _ (.head _)) Tryd.underlying97 rfl infoFN) <| .c (.ca fun _ _ _ => ptimes_any _ _ (tmul_lt (tsq_lt hs 2) hs) ha _) <| .c (.al hz2) <| .c (.st 6 infoFN (numA_one _)) .nil
  · intro vs wq hJ hf
    obtain ⟨g, hg⟩ := hf 6 _ _ rfl rfl
    obtain ⟨hgl, hgn, hog⟩ := hJ.got 6 hg
    have hK := hJ.1.cons hog
    simp only [putL, Lv.val, Nat.zero_add, Nat.reduceAdd, hg, Act.put, List.setIfInBounds_toArray, List.set_cons_succ, List.set_cons_zero]
    rw [He.out] at hK ⊢
    have ngR : bR ≠ g := hgn (bR, B32 fun _ => 0, 22) (by simp)
    have hK : Kp [(bR, B32 fun _ => 0, 22), (g, numA e, 97), (bN, numA a, 97)] w wq := hK.sub (by simp)
    go_upto_region 4 with fail
    refine wp_region_lv 22 (fun L => [(bR, if L 6 = true then B32 (bdig (tmul (tsq o 5) e % pp)) else B32 fun _ => 0, 22), (g, numA e, 97), (bN, numA a, 97)]) [.v (.agg (numA (a))), .v (.agg (numA (o))), .v (.agg (numA (tsq o 5))), .v (.agg (numA (e))), .v (.agg (numA (tmul (tsq o 5) e))), .v (.agg (B32 (bdig (tmul (tsq o 5) e % pp)))), .o] hK (by kernel_rfl) (by kernel_rfl) (by kernel_rfl) (by rfl) ?_ ?_
    · exact .c (.ld bN (fun _ => .tail _ (.tail _ (.head _))) Tryd.underlying97 rfl infoFN) <| .c (.ca fun _ wc hkx => by have h := ones_any a ha 250 (by decide) (by decide) wc; rw [Ho.out] at h; exact h) <| .c (.ca fun _ _ _ => squared_any o 5 ho5 (by decide) _) <| .c (.ld g (fun _ => .tail _ (.head _)) Tryd.underlying97 rfl infoFN) <| .c (.ca fun _ _ _ => ptimes_any _ _ (tsq_lt ho5 5) he _) <| .c (.ca fun _ _ hkx => write_any _ (tmul_lt (tsq_lt ho5 5) he) _ (hT.kp hkx)) <| .c (.sk bR (.hr (fun _ => rfl) (fun _ => rfl) (fun _ => by simp; omega)) hleR (B32_info _) (B32_one _)) .nil
    · intro _ wz hJ _
      have hK : Kp [(bR, B32 (bdig (tmul (tsq o 5) e % pp)), 22), (g, numA e, 97), (bN, numA a, 97)] w wz := hJ.1
      simp only [putL, Lv.val, Act.put, List.setIfInBounds_toArray, List.set_cons_succ, List.set_cons_zero]
      go_wp2_with fail
      exact bodyPost_ret (results_own Tryd.results45 _ _ bR (B32 (bdig (tmul (tsq o 5) e % pp))) _ (by rfl) hK.h1 Tryd.underlying22 rfl (B32_info _)) rfl ⟨by rw [Hfin.out, Hx.out], hK.2⟩
end Go.Proofs.YtgibllaifnnfkaaDoor
namespace Go.Proofs.YtgibllaifnnfkaaDoor
open Go.RowKit
theorem odd_word (x : Nat) : bits .and .u64 (dig x 0 : Int) 1 = ((x % 2 : Nat) : Int) := by
  rw [and1_u64 _ (dig_lt x 0)]
  unfold dig
  rw [Nat.pow_zero, Nat.div_one]
  omega
def rootOf (r a : Nat) : Option Nat := if r * r % pp = a % pp then some (evenOf r) else if (r * fi % pp) * (r * fi % pp) % pp = a % pp then some (evenOf (r * fi % pp)) else none
theorem froot_of (a : Nat) : froot a = rootOf (a ^ ((pp + 3) / 8) % pp) a := by
  unfold froot
  generalize a ^ ((pp + 3) / 8) % pp = r
  exact Eq.refl _
end Go.Proofs.YtgibllaifnnfkaaDoor
namespace Go.Proofs.YtgibllaifnnfkaaDoor
open Go.RowKit
theorem digs_eq (x y : Nat) (hx : x < R256) (hy : y < R256) : ((dig x 0 : Int) = (dig y 0 : Int) ∧ (dig x 1 : Int) = (dig y 1 : Int) ∧ (dig x 2 : Int) = (dig y 2 : Int) ∧ (dig x 3 : Int) = (dig y 3 : Int)) ↔ x = y := by
  constructor
  · rintro ⟨h0, h1, h2, h3⟩
    rw [← vl_num x hx, ← vl_num y hy]
    refine vl_congr 4 fun i hi => ?_
    rcases i with _ | _ | _ | _ | i
    · exact Int.ofNat.inj h0
    · exact Int.ofNat.inj h1
    · exact Int.ofNat.inj h2
    · exact Int.ofNat.inj h3
    · omega
  · rintro rfl
    exact ⟨rfl, rfl, rfl, rfl⟩
theorem fn_eq (x y : Nat) (hx : x < R256) (hy : y < R256) (w : World) : (Op.equalIn 10000 97 (.agg (numA x)) (.agg (numA y))).run Tryd.prog w = .ok (decide (x = y)) w := by
  have e := digs_eq x y hx hy
  have hst : Tryd.prog.stoodInHeld 97 = false := by kernel_rfl
  rw [run_equalIn_struct w 9999 97 (numA x) (numA y) (by rw [Program.fieldsOf, Tryd.underlying97]) hst]
  unfold Program.fieldsOf
  rw [Tryd.underlying97]
  unfold numA A4
  generalize (dig x 0 : Int) = x0 at *
  generalize (dig x 1 : Int) = x1 at *
  generalize (dig x 2 : Int) = x2 at *
  generalize (dig x 3 : Int) = x3 at *
  generalize (dig y 0 : Int) = y0 at *
  generalize (dig y 1 : Int) = y1 at *
  generalize (dig y 2 : Int) = y2 at *
  generalize (dig y 3 : Int) = y3 at *
  by_cases hxy : x = y
  · obtain ⟨h0, h1, h2, h3⟩ := e.2 hxy
    rw [decide_eq_true hxy]
    subst h0 h1 h2 h3
    clear e hxy
    go_simp
  · rw [decide_eq_false hxy]
    have hn := fun h => hxy (e.1 h)
    clear e hxy
    go_simp
    exact fun h0 h1 h2 h3 => hn ⟨h0, h1, h2, h3⟩
set_option maxRecDepth 100000 in
set_option maxHeartbeats 4000000 in
theorem same_any (x y : Nat) (hx : x < R256) (hy : y < R256) (w : World) (hT : TP w) : Calls Tryd.prog 80 #[.agg (numA x), .agg (numA y)] w fun r w' => r = .returned (.bool (decide (x % pp = y % pp))) ∧ Below w.heap.size w w' := by
  go_enter Tryd.func80, Tryd.ntmps80
  go_upto_region 1 with fail
  have hK := ((Kp.nil w).alloc (numA x) 97).alloc (numA y) 97
  rw [World.size_alloc] at hK
  generalize (w.alloc (.cells (numA x) 97)).alloc (.cells (numA y) 97) = W at *
  obtain ⟨bX, H1⟩ : ∃ bX, Hid (w.heap.size = bX) := ⟨_, rfl⟩
  obtain ⟨bY, H2⟩ : ∃ bY, Hid (bX + 1 = bY) := ⟨_, rfl⟩
  rw [H1.out, H2.out] at hK ⊢
  refine wp_region_lv 10 (fun _ => [(bY, numA y, 97), (bX, numA x, 97)]) [.v (.agg (numA (x))), .v (.agg (numA (x % pp))), .v (.agg (numA (y))), .v (.agg (numA (y % pp))), .v (.bool (decide (x % pp = y % pp))), .v (.bool (decide (x % pp = y % pp)))] hK (by kernel_rfl) (by kernel_rfl) (by kernel_rfl) (by rfl) ?_ ?_
  · exact .c (.ld bX (fun _ => .tail _ (.head _)) Tryd.underlying97 rfl infoFN) <| .c (.ca fun _ _ hkx => least_any x hx _ (hT.kp hkx)) <| .c (.ld bY (fun _ => .head _) Tryd.underlying97 rfl infoFN) <| .c (.ca fun _ _ hkx => least_any y hy _ (hT.kp hkx)) <| .c (.p2 6 (.agg (numA (x % pp))) 8 (.agg (numA (y % pp))) (h := by intro ac wc f6 f8; have q0 := getq f6; have q1 := getq f8; have he := fn_eq (x % pp) (y % pp) lt_of_mod lt_of_mod; go_simp)) <| .c (.p1 9 (.bool (decide (x % pp = y % pp)))) .nil
  · intro _ wq hJ _
    have hKq := hJ.1
    simp only [putL, Lv.val, Act.put, List.setIfInBounds_toArray, List.set_cons_succ, List.set_cons_zero]
    go_wp2_with fail
    go_ret
    exact ⟨rfl, hKq.2⟩
def TT (w : World) : Prop := 8 < w.heap.size ∧ w.cell? ⟨8, 0, none⟩ = some (.int .u64 14190309331451158704) ∧ w.cell? ⟨8, 1, none⟩ = some (.int .u64 3405592160176694392) ∧ w.cell? ⟨8, 2, none⟩ = some (.int .u64 3120150775007532967) ∧ w.cell? ⟨8, 3, none⟩ = some (.int .u64 3135389899092516619)
theorem TT.keep {w w' : World} (h : TT w) (hB : Below w.heap.size w w') : TT w' := by
  obtain ⟨h0, h1, h2, h3, h4⟩ := h
  have hc := (bcell hB).1
  exact ⟨Nat.lt_of_lt_of_le h0 hB.size, by rw [hc _ _ h0]; exact h1, by rw [hc _ _ h0]; exact h2, by rw [hc _ _ h0]; exact h3, by rw [hc _ _ h0]; exact h4⟩
theorem turn_num : (#[.int .u64 14190309331451158704, .int .u64 3405592160176694392, .int .u64 3120150775007532967, .int .u64 3135389899092516619] : Array Value) = numA fi := by rfl
theorem ptimes_turn {A : Array Value} {x y : Nat} (h : A = numA y) (hx : x < R256) (hy : y < R256) (w : World) : Calls Tryd.prog 62 #[.agg (numA x), .agg A] w fun r w' => r = .returned (.agg (numA (tmul x y))) ∧ Below w.heap.size w w' := by
  rw [h]; exact ptimes_any x y hx hy w
def rootBo : Option Nat → Value
  | some z => .tuple #[.agg (B32 (bdig z)), .bool true]
  | none => .tuple #[.agg (B32 (bdig 0)), .bool false]
theorem rootB_first {a r : Nat} (h1 : a ^ ((pp + 3) / 8) % pp = r) (h : r * r % pp = a % pp) : rootBo (froot a) = .tuple #[.agg (B32 (bdig (evenOf r))), .bool true] := by
  have : froot a = some (evenOf r) := by
    rw [froot_of, h1]
    unfold rootOf
    rw [if_pos h]
  rw [this, rootBo]
theorem rootB_second {a r x : Nat} (h1 : a ^ ((pp + 3) / 8) % pp = r) (hn : ¬ r * r % pp = a % pp) (hx : r * fi % pp = x) (h : x * x % pp = a % pp) : rootBo (froot a) = .tuple #[.agg (B32 (bdig (evenOf x))), .bool true] := by
  have : froot a = some (evenOf x) := by
    rw [froot_of, h1]
    unfold rootOf
    rw [if_neg hn, if_pos (by rw [hx]; exact h), hx]
  rw [this, rootBo]
theorem rootB_none {a r x : Nat} (h1 : a ^ ((pp + 3) / 8) % pp = r) (hn : ¬ r * r % pp = a % pp) (hx : r * fi % pp = x) (h : ¬ x * x % pp = a % pp) : rootBo (froot a) = .tuple #[.agg (B32 (bdig 0)), .bool false] := by
  have : froot a = none := by
    rw [froot_of, h1]
    unfold rootOf
    rw [if_neg hn, if_neg (by rw [hx]; exact h)]
  rw [this, rootBo]
theorem root_exp : (2 ^ 250 - 1) * 2 ^ 2 + 1 * 2 ^ 1 = (pp + 3) / 8 := by decide
theorem root_power {a o s : Nat} (ho : tones a 250 = o) (hs : tsq a 1 = s) : tmul (tsq o 2) s % pp = a ^ ((pp + 3) / 8) % pp := by
  have h1 : PM a (2 ^ 250 - 1) o := by rw [← ho]; exact tones_pow a 250 (by decide)
  have h2 : PM a (1 * 2 ^ 1) s := by rw [← hs]; exact PM.sq (PM.one a) 1
  have h4 := PM.mul (PM.sq h1 2) h2
  rw [root_exp] at h4
  exact h4
theorem sq_mod {q x y : Nat} (hx : q % pp = x) (hy : tsq q 1 = y) : x * x % pp = y % pp := by
  rw [← hx, ← hy, ← Nat.mul_mod]
  exact (tmul_mod q q).symm
theorem turn_mod {q x z : Nat} (hx : q % pp = x) (hz : tmul q fi = z) : x * fi % pp = z % pp := by
  rw [← hz, tmul_mod, ← hx, Nat.mod_mul_mod]
theorem zero_bytes : B32 (fun _ => 0) = B32 (bdig 0) := B32_ext fun i _ => by unfold bdig; rw [Nat.zero_div]
set_option maxRecDepth 100000 in
set_option maxHeartbeats 16000000 in
theorem proot_any (a : Nat) (ha : a < R256) (w : World) (hT : TP w) (hTT : TT w) : Calls Tryd.prog 70 #[.agg (B32 (bdig a))] w fun r w' => r = .returned (rootBo (froot a)) ∧ Below w.heap.size w w' := by
  have hz := (zero_of_info zeroB32).1
  have hz2 := (zero_of_info zeroFN).1
  have hs := tsq_lt ha 1
  obtain ⟨s, Hs⟩ : ∃ s, Hid (tsq a 1 = s) := ⟨_, rfl⟩
  rw [Hs.out] at hs
  have ho5 := tones_lt ha 250
  obtain ⟨o, Ho⟩ : ∃ o, Hid (tones a 250 = o) := ⟨_, rfl⟩
  rw [Ho.out] at ho5
  have hq := tmul_lt (tsq_lt ho5 2) hs
  obtain ⟨q, Hq⟩ : ∃ q, Hid (tmul (tsq o 2) s = q) := ⟨_, rfl⟩
  rw [Hq.out] at hq
  have Hpow : Hid (a ^ ((pp + 3) / 8) % pp = q % pp) := by show _ = _; rw [← Hq.out]; exact (root_power Ho.out Hs.out).symm
  have hy := tsq_lt hq 1
  obtain ⟨y, Hy⟩ : ∃ y, Hid (tsq q 1 = y) := ⟨_, rfl⟩
  rw [Hy.out] at hy
  obtain ⟨d, Hd⟩ : ∃ d, Hid (decide (y % pp = a % pp) = d) := ⟨_, rfl⟩
  obtain ⟨V, HV⟩ : ∃ V, Hid (rootBo (froot a) = V) := ⟨_, rfl⟩
  rw [HV.out]
  go_enter Tryd.func70, Tryd.ntmps70
  go_upto_region 1 with fail
  have hK := ((Kp.nil w).alloc (B32 (bdig a)) 22).alloc (B32 fun _ => 0) 22
  rw [World.size_alloc] at hK
  generalize (w.alloc (.cells (B32 (bdig a)) 22)).alloc (.cells (B32 fun _ => 0) 22) = W at *
  obtain ⟨bA, H1⟩ : ∃ bA, Hid (w.heap.size = bA) := ⟨_, rfl⟩
  obtain ⟨bR, H2⟩ : ∃ bR, Hid (bA + 1 = bR) := ⟨_, rfl⟩
  have hleR : w.heap.size ≤ bR := by have := H1.out; have := H2.out; omega
  rw [H1.out, H2.out] at hK ⊢
  go_wp2_with (refine wpList_load_own (by rfl) 22 (.tmp 1) (by rfl) bA (by rfl) (B32 (bdig a)) _ hK.h2 Tryd.underlying22 (by rfl) (B32_info _) ?_)
  refine (read_any a W).mono ?_
  rintro r W1 ⟨rfl, bw⟩
  have hK := hK.below bw
  go_upto_region 2 with (refine wpList_store_new (by rfl) 97 (.tmp 4) (.tmp 7) (by rfl) _ (numA a) (by rfl) (by rfl) infoFN rfl (numA_one _) (by rfl) ?_)
  have hK := hK.alloc (numA a) 97
  generalize W1.alloc (.cells (numA a) 97) = W2 at *
  obtain ⟨bN, H3⟩ : ∃ bN, Hid (W1.heap.size = bN) := ⟨_, rfl⟩
  rw [H3.out] at hK ⊢
  have hK : Kp [(bN, numA a, 97), (bR, B32 fun _ => 0, 22)] w W2 := hK.sub (by simp)
  refine wp_region_lv 38 (fun _ => [(bN, numA a, 97), (bR, B32 fun _ => 0, 22)]) [.v (.agg (numA (a))), .v (.agg (numA (o))), .v (.agg (numA (tsq o 2))), .v (.agg (numA (a))), .v (.agg (numA (s))), .v (.agg (numA (tmul (tsq o 2) s))), .mk (Q4 0 0 0 0) (numA (tmul (tsq o 2) s)) 97 7, .o] hK (by kernel_rfl) (by kernel_rfl) (by kernel_rfl) (by rfl) ?_ ?_
  · exact .c (.ld bN (fun _ => .head _) Tryd.underlying97 rfl infoFN) <| .c (.ca fun _ wc hkx => by have h := ones_any a ha 250 (by decide) (by decide) wc; rw [Ho.out] at h; exact h) <| .c (.ca fun _ _ _ => squared_any o 2 ho5 (by decide) _) <| .c (.ld bN (fun _ => .head _) Tryd.underlying97 rfl infoFN) <| .c (.ca fun _ wc hkx => by have h := squared_any a 1 ha (by decide) wc; rw [Hs.out] at h; exact h) <| .c (.ca fun _ _ _ => ptimes_any _ _ (tsq_lt ho5 2) hs _) <| .c (.al hz2) <| .c (.st 6 infoFN (numA_one _)) .nil
  · intro vs wq hJ hf
    obtain ⟨g, hg⟩ := hf 6 _ _ rfl rfl
    obtain ⟨hgl, hgn, hog⟩ := hJ.got 6 hg
    have hK := hJ.1.cons hog
    simp only [putL, Lv.val, Nat.zero_add, Nat.reduceAdd, hg, Act.put, List.setIfInBounds_toArray, List.set_cons_succ, List.set_cons_zero]
    rw [Hq.out] at hK ⊢
    have hnot : ∀ p ∈ [(bN, numA a, 97), (bR, B32 fun _ => 0, 22)], p.1 ≠ g := hgn
    clear hJ hf hgn
    go_upto_region 3 with fail
    refine wp_region_lv 38 (fun _ => [(g, numA q, 97), (bN, numA a, 97), (bR, B32 fun _ => 0, 22)]) [.v (.agg (numA q)), .v (.agg (numA y)), .v (.agg (numA a)), .v (.bool d), .v (.bool (!d))] hK (by kernel_rfl) (by kernel_rfl) (by kernel_rfl) (by rfl) ?_ ?_
    · exact .c (.ld g (fun _ => .head _) Tryd.underlying97 rfl infoFN) <| .c (.ca fun _ wc hkx => by have h := squared_any q 1 hq (by decide) wc; rw [Hy.out] at h; exact h) <| .c (.ld bN (fun _ => .tail _ (.head _)) Tryd.underlying97 rfl infoFN) <| .c (.ca fun _ wc hkx => by have h := same_any y a hy ha wc (hT.kp hkx); rw [Hd.out] at h; exact h) <| .c (.p1 17 (.bool d)) .nil
    · intro _ wy hJ _
      have hK := hJ.1
      simp only [putL, Lv.val, Act.put, List.setIfInBounds_toArray, List.set_cons_succ, List.set_cons_zero]
      cases d with
      | true =>
        have hyd := of_decide_eq_true Hd.out
        go_upto_region 5 with fail
        refine wp_region_lv 38 (fun _ => [(g, numA q, 97), (bN, numA a, 97), (bR, B32 fun _ => 0, 22)]) [.v (.agg (numA q)), .v (.agg (numA y)), .v (.agg (numA a)), .v (.bool true), .v (.bool (!true))] hK (by kernel_rfl) (by kernel_rfl) (by kernel_rfl) (by rfl) ?_ ?_
        · exact .c (.ld g (fun _ => .head _) Tryd.underlying97 rfl infoFN) <| .c (.ca fun _ wc hkx => by have h := squared_any q 1 hq (by decide) wc; rw [Hy.out] at h; exact h) <| .c (.ld bN (fun _ => .tail _ (.head _)) Tryd.underlying97 rfl infoFN) <| .c (.ca fun _ wc hkx => by have h := same_any y a hy ha wc (hT.kp hkx); rw [Hd.out] at h; exact h) <| .c (.p1 25 (.bool true)) .nil
        · intro _ wz hJ _
          have hK := hJ.1
          simp only [putL, Lv.val, Act.put, List.setIfInBounds_toArray, List.set_cons_succ, List.set_cons_zero]
          obtain ⟨x, Hx⟩ : ∃ x, Hid (q % pp = x) := ⟨_, rfl⟩
          have hxp : x < pp := by rw [← Hx.out]; exact Nat.mod_lt _ pp_pos
          have hxR : x < R256 := Nat.lt_trans hxp (by decide)
          have HE : Hid (V = .tuple #[.agg (B32 (bdig (evenOf x))), .bool true]) := by show _ = _; rw [← HV.out]; exact rootB_first (Hpow.out.trans Hx.out) ((sq_mod Hx.out Hy.out).trans hyd)
          go_upto_region 7 with fail
          go_wp2_with (refine wpList_load_own (by rfl) 97 (.tmp 5) (by rfl) g (by rfl) (numA q) _ hK.h1 Tryd.underlying97 (by rfl) infoFN ?_)
          refine (least_any q hq _ (hT.kp hK)).mono ?_
          rintro e w7 ⟨rfl, b7⟩
          rw [Hx.out]
          have hK := hK.below b7
          go_upto_region 8 with (refine wpList_store_own (by rfl) 97 (.tmp 5) (.tmp 29) (by rfl) g 0 (numA x) (by rfl) (by rfl) hK.h1 (Nat.le_refl _) infoFN (numA_one _) (by rfl) ?_)
          have hK := Kp.set (A' := numA x) hK hnot hgl rfl
          generalize w7.setCells g 0 (numA x).toList = w8 at *
          have c0 := hK.h1.cell (numA_at x 0 (by decide))
          by_cases hx2 : x % 2 = 1
          · have ho1 : bits .and .u64 (dig x 0 : Int) 1 = 1 := by rw [odd_word, hx2]; rfl
            obtain ⟨v, Hv⟩ : ∃ v, Hid (pp - x = v) := ⟨_, rfl⟩
            have hv : v < pp := by have := Hv.out; omega
            have hvR : v < R256 := Nat.lt_trans hv (by decide)
            have Hv2 : Hid (pp - x % pp = v) := by show _ = _; rw [Nat.mod_eq_of_lt hxp]; exact Hv.out
            have Hv3 : Hid (v % pp = v) := Nat.mod_eq_of_lt hv
            have Hev : Hid (evenOf x = v) := by show _ = _; unfold evenOf; rw [if_pos hx2]; exact Hv.out
            clear hx2
            go_upto_region 9 with fail
            clear c0
            go_wp2_with (refine wpList_load_own (by rfl) 97 (.tmp 5) (by rfl) g (by rfl) (numA x) _ hK.h1 Tryd.underlying97 (by rfl) infoFN ?_)
            refine (opp_any x hxR _ (hT.kp hK)).mono ?_
            rintro e w9 ⟨rfl, b9⟩
            rw [Hv2.out]
            have hK := hK.below b9
            go_upto_region 10 with (refine wpList_store_own (by rfl) 97 (.tmp 5) (.tmp 35) (by rfl) g 0 (numA v) (by rfl) (by rfl) hK.h1 (Nat.le_refl _) infoFN (numA_one _) (by rfl) ?_)
            have hK := Kp.set (A' := numA v) hK hnot hgl rfl
            generalize w9.setCells g 0 (numA v).toList = w10 at *
            go_wp2_with (refine wpList_load_own (by rfl) 97 (.tmp 5) (by rfl) g (by rfl) (numA v) _ hK.h1 Tryd.underlying97 (by rfl) infoFN ?_)
            refine (write_any v hvR _ (hT.kp hK)).mono ?_
            rintro e w11 ⟨rfl, b11⟩
            rw [Hv3.out]
            have hK := hK.below b11
            go_wp2_with (refine wpList_store_own (by rfl) 22 (.tmp 2) (.tmp 37) (by rfl) bR 0 (B32 (bdig v)) (by rfl) (by rfl) hK.h3 (B32_le _ _) (B32_info _) (B32_one _) (by rfl) ?_)
            exact bodyPost_ret (results_own_tmp Tryd.results70 _ _ bR (B32 (bdig v)) _ (by rfl) (own_setCells hK.h3 (B32_sizes _ _)) Tryd.underlying22 rfl (B32_info _)) rfl ⟨by rw [HE.out, Hev.out]; rfl, Below.setCells _ _ _ _ hleR hK.2⟩
          · have ho1 : bits .and .u64 (dig x 0 : Int) 1 = 0 := by rw [odd_word, show x % 2 = 0 by omega]; rfl
            have Hx3 : Hid (x % pp = x) := Nat.mod_eq_of_lt hxp
            have Hev : Hid (evenOf x = x) := by show _ = _; unfold evenOf; rw [if_neg hx2]
            clear hx2
            go_upto_region 10 with fail
            clear c0
            go_wp2_with (refine wpList_load_own (by rfl) 97 (.tmp 5) (by rfl) g (by rfl) (numA x) _ hK.h1 Tryd.underlying97 (by rfl) infoFN ?_)
            refine (write_any x hxR _ (hT.kp hK)).mono ?_
            rintro e w11 ⟨rfl, b11⟩
            rw [Hx3.out]
            have hK := hK.below b11
            go_wp2_with (refine wpList_store_own (by rfl) 22 (.tmp 2) (.tmp 37) (by rfl) bR 0 (B32 (bdig x)) (by rfl) (by rfl) hK.h3 (B32_le _ _) (B32_info _) (B32_one _) (by rfl) ?_)
            exact bodyPost_ret (results_own_tmp Tryd.results70 _ _ bR (B32 (bdig x)) _ (by rfl) (own_setCells hK.h3 (B32_sizes _ _)) Tryd.underlying22 rfl (B32_info _)) rfl ⟨by rw [HE.out, Hev.out]; rfl, Below.setCells _ _ _ _ hleR hK.2⟩
      | false =>
        have hyd := of_decide_eq_false Hd.out
        have hz1 := tmul_lt hq (Nat.lt_trans fi_lt (by decide))
        obtain ⟨z, Hz⟩ : ∃ z, Hid (tmul q fi = z) := ⟨_, rfl⟩
        rw [Hz.out] at hz1
        have hu := tsq_lt hz1 1
        obtain ⟨u, Hu⟩ : ∃ u, Hid (tsq z 1 = u) := ⟨_, rfl⟩
        rw [Hu.out] at hu
        obtain ⟨d1, Hd1⟩ : ∃ d, Hid (decide (u % pp = a % pp) = d) := ⟨_, rfl⟩
        obtain ⟨x0, Hx0⟩ : ∃ x, Hid (q % pp = x) := ⟨_, rfl⟩
        obtain ⟨tl, t0, t1, t2, t3⟩ := hTT.keep hK.2
        go_upto_region 4 with fail
        go_wp2_with (refine wpList_load_own (by rfl) 97 (.tmp 5) (by rfl) g (by rfl) (numA q) _ hK.h1 Tryd.underlying97 (by rfl) infoFN ?_)
        refine (ptimes_turn turn_num hq (Nat.lt_trans fi_lt (by decide)) _).mono ?_
        rintro e w4 ⟨rfl, b4⟩
        rw [Hz.out]
        clear tl t0 t1 t2 t3
        have hK := hK.below b4
        go_upto_region 5 with (refine wpList_store_own (by rfl) 97 (.tmp 5) (.tmp 21) (by rfl) g 0 (numA z) (by rfl) (by rfl) hK.h1 (Nat.le_refl _) infoFN (numA_one _) (by rfl) ?_)
        have hK := Kp.set (A' := numA z) hK hnot hgl rfl
        generalize w4.setCells g 0 (numA z).toList = w5 at *
        go_upto_region 5 with fail
        refine wp_region_lv 38 (fun _ => [(g, numA z, 97), (bN, numA a, 97), (bR, B32 fun _ => 0, 22)]) [.v (.agg (numA z)), .v (.agg (numA u)), .v (.agg (numA a)), .v (.bool d1), .v (.bool (!d1))] hK (by kernel_rfl) (by kernel_rfl) (by kernel_rfl) (by rfl) ?_ ?_
        · exact .c (.ld g (fun _ => .head _) Tryd.underlying97 rfl infoFN) <| .c (.ca fun _ wc hkx => by have h := squared_any z 1 hz1 (by decide) wc; rw [Hu.out] at h; exact h) <| .c (.ld bN (fun _ => .tail _ (.head _)) Tryd.underlying97 rfl infoFN) <| .c (.ca fun _ wc hkx => by have h := same_any u a hu ha wc (hT.kp hkx); rw [Hd1.out] at h; exact h) <| .c (.p1 25 (.bool d1)) .nil
        · intro _ wz hJ _
          have hK := hJ.1
          simp only [putL, Lv.val, Act.put, List.setIfInBounds_toArray, List.set_cons_succ, List.set_cons_zero]
          cases d1 with
          | true =>
            have hud := of_decide_eq_true Hd1.out
            obtain ⟨x, Hx⟩ : ∃ x, Hid (z % pp = x) := ⟨_, rfl⟩
            have hxp : x < pp := by rw [← Hx.out]; exact Nat.mod_lt _ pp_pos
            have hxR : x < R256 := Nat.lt_trans hxp (by decide)
            have HE : Hid (V = .tuple #[.agg (B32 (bdig (evenOf x))), .bool true]) := by show _ = _; rw [← HV.out]; exact rootB_second (Hpow.out.trans Hx0.out) (fun h => hyd ((sq_mod Hx0.out Hy.out).symm.trans h)) ((turn_mod Hx0.out Hz.out).trans Hx.out) ((sq_mod Hx.out Hu.out).trans hud)
            go_upto_region 7 with fail
            go_wp2_with (refine wpList_load_own (by rfl) 97 (.tmp 5) (by rfl) g (by rfl) (numA z) _ hK.h1 Tryd.underlying97 (by rfl) infoFN ?_)
            refine (least_any z hz1 _ (hT.kp hK)).mono ?_
            rintro e w7 ⟨rfl, b7⟩
            rw [Hx.out]
            have hK := hK.below b7
            go_upto_region 8 with (refine wpList_store_own (by rfl) 97 (.tmp 5) (.tmp 29) (by rfl) g 0 (numA x) (by rfl) (by rfl) hK.h1 (Nat.le_refl _) infoFN (numA_one _) (by rfl) ?_)
            have hK := Kp.set (A' := numA x) hK hnot hgl rfl
            generalize w7.setCells g 0 (numA x).toList = w8 at *
            have c0 := hK.h1.cell (numA_at x 0 (by decide))
            by_cases hx2 : x % 2 = 1
            · have ho1 : bits .and .u64 (dig x 0 : Int) 1 = 1 := by rw [odd_word, hx2]; rfl
              obtain ⟨v, Hv⟩ : ∃ v, Hid (pp - x = v) := ⟨_, rfl⟩
              have hv : v < pp := by have := Hv.out; omega
              have hvR : v < R256 := Nat.lt_trans hv (by decide)
              have Hv2 : Hid (pp - x % pp = v) := by show _ = _; rw [Nat.mod_eq_of_lt hxp]; exact Hv.out
              have Hv3 : Hid (v % pp = v) := Nat.mod_eq_of_lt hv
              have Hev : Hid (evenOf x = v) := by show _ = _; unfold evenOf; rw [if_pos hx2]; exact Hv.out
              clear hx2
              go_upto_region 9 with fail
              clear c0
              go_wp2_with (refine wpList_load_own (by rfl) 97 (.tmp 5) (by rfl) g (by rfl) (numA x) _ hK.h1 Tryd.underlying97 (by rfl) infoFN ?_)
              refine (opp_any x hxR _ (hT.kp hK)).mono ?_
              rintro e w9 ⟨rfl, b9⟩
              rw [Hv2.out]
              have hK := hK.below b9
              go_upto_region 10 with (refine wpList_store_own (by rfl) 97 (.tmp 5) (.tmp 35) (by rfl) g 0 (numA v) (by rfl) (by rfl) hK.h1 (Nat.le_refl _) infoFN (numA_one _) (by rfl) ?_)
              have hK := Kp.set (A' := numA v) hK hnot hgl rfl
              generalize w9.setCells g 0 (numA v).toList = w10 at *
              go_wp2_with (refine wpList_load_own (by rfl) 97 (.tmp 5) (by rfl) g (by rfl) (numA v) _ hK.h1 Tryd.underlying97 (by rfl) infoFN ?_)
              refine (write_any v hvR _ (hT.kp hK)).mono ?_
              rintro e w11 ⟨rfl, b11⟩
              rw [Hv3.out]
              have hK := hK.below b11
              go_wp2_with (refine wpList_store_own (by rfl) 22 (.tmp 2) (.tmp 37) (by rfl) bR 0 (B32 (bdig v)) (by rfl) (by rfl) hK.h3 (B32_le _ _) (B32_info _) (B32_one _) (by rfl) ?_)
              exact bodyPost_ret (results_own_tmp Tryd.results70 _ _ bR (B32 (bdig v)) _ (by rfl) (own_setCells hK.h3 (B32_sizes _ _)) Tryd.underlying22 rfl (B32_info _)) rfl ⟨by rw [HE.out, Hev.out]; rfl, Below.setCells _ _ _ _ hleR hK.2⟩
            · have ho1 : bits .and .u64 (dig x 0 : Int) 1 = 0 := by rw [odd_word, show x % 2 = 0 by omega]; rfl
              have Hx3 : Hid (x % pp = x) := Nat.mod_eq_of_lt hxp
              have Hev : Hid (evenOf x = x) := by show _ = _; unfold evenOf; rw [if_neg hx2]
              clear hx2
              go_upto_region 10 with fail
              clear c0
              go_wp2_with (refine wpList_load_own (by rfl) 97 (.tmp 5) (by rfl) g (by rfl) (numA x) _ hK.h1 Tryd.underlying97 (by rfl) infoFN ?_)
              refine (write_any x hxR _ (hT.kp hK)).mono ?_
              rintro e w11 ⟨rfl, b11⟩
              rw [Hx3.out]
              have hK := hK.below b11
              go_wp2_with (refine wpList_store_own (by rfl) 22 (.tmp 2) (.tmp 37) (by rfl) bR 0 (B32 (bdig x)) (by rfl) (by rfl) hK.h3 (B32_le _ _) (B32_info _) (B32_one _) (by rfl) ?_)
              exact bodyPost_ret (results_own_tmp Tryd.results70 _ _ bR (B32 (bdig x)) _ (by rfl) (own_setCells hK.h3 (B32_sizes _ _)) Tryd.underlying22 rfl (B32_info _)) rfl ⟨by rw [HE.out, Hev.out]; rfl, Below.setCells _ _ _ _ hleR hK.2⟩
          | false =>
            have hud := of_decide_eq_false Hd1.out
            have HE : Hid (V = .tuple #[.agg (B32 (bdig 0)), .bool false]) := by
              show _ = _
              rw [← HV.out]
              exact rootB_none (Hpow.out.trans Hx0.out) (fun h => hyd ((sq_mod Hx0.out Hy.out).symm.trans h)) (turn_mod Hx0.out Hz.out) (fun h => hud ((sq_mod rfl Hu.out).symm.trans h))
            go_upto_region 6 with fail
            go_wp2_with (refine wpList_store_own (by rfl) 22 (.tmp 2) (.tmp 27) (by rfl) bR 0 (B32 fun _ => 0) (by rfl) (by rfl) hK.h3 (B32_le _ _) (B32_info _) (B32_one _) (by rfl) ?_)
            exact bodyPost_ret (results_own_tmp Tryd.results70 _ _ bR (B32 fun _ => 0) _ (by rfl) (own_setCells hK.h3 (B32_sizes _ _)) Tryd.underlying22 rfl (B32_info _)) rfl ⟨by rw [HE.out, ← zero_bytes]; rfl, Below.setCells _ _ _ _ hleR hK.2⟩
end Go.Proofs.YtgibllaifnnfkaaDoor
