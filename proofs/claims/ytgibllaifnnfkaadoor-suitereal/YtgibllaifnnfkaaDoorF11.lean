/- The program's inverse. -/
import Derived.Test.YtgibllaifnnfkaaDoorF10
import Derived.Test.YtgibllaifnnfkaaDoorRG
namespace Go.Proofs.YtgibllaifnnfkaaDoor
open Go.RowKit
/-- The program's inverse, by what it answers. -/
def FInv (T : World → Prop) : Prop := ∀ a, a < R256 → ∀ w, T w → Calls Tryd.prog 45 #[.agg (B32 (bdig a))] w fun x w' => x = .returned (.agg (B32 (bdig (finv a)))) ∧ Below w.heap.size w w'
theorem finvA {T : World → Prop} (hI : FInv T) {a c : Nat} (ha : a < R256) (hc : finv a = c) (w : World) (hT : T w) : Calls Tryd.prog 45 #[.agg (B32 (bdig a))] w fun x w' => x = .returned (.agg (B32 (bdig c))) ∧ Below w.heap.size w w' := by
  rw [← hc]; exact hI a ha w hT
theorem inv_exp : (2 ^ 250 - 1) * 2 ^ 5 + (1 * 2 ^ 1 * 2 ^ 2 + 1 * 2 ^ 1 + 1) = pp - 2 := by decide
theorem inv_power {a o s e : Nat} (ho : tones a 250 = o) (hs : tsq a 1 = s) (he : tmul (tmul (tsq s 2) s) a = e) : tmul (tsq o 5) e % pp = finv a := by
  have h1 : PM a (2 ^ 250 - 1) o := by rw [← ho]; exact tones_pow a 250 (by decide)
  have h2 : PM a (1 * 2 ^ 1) s := by rw [← hs]; exact PM.sq (PM.one a) 1
  have h3 : PM a (1 * 2 ^ 1 * 2 ^ 2 + 1 * 2 ^ 1 + 1) e := by rw [← he]; exact PM.mul (PM.mul (PM.sq h2 2) h2) (PM.one a)
  have h4 := PM.mul (PM.sq h1 5) h3
  rw [inv_exp] at h4
  exact h4

set_option maxRecDepth 100000 in
set_option maxHeartbeats 16000000 in
theorem finv_p : FInv TP := by
  intro a ha w hT
  have hz := (zero_of_info zeroB32).1
  have hz2 := (zero_of_info zeroFN).1
  have hs := tsq_lt ha 1
  obtain ⟨s, Hs⟩ : ∃ s, Hid (tsq a 1 = s) := ⟨_, rfl⟩
  rw [Hs.out] at hs
  have he := tmul_lt (tmul_lt (tsq_lt hs 2) hs) ha
  obtain ⟨e, He⟩ : ∃ e, Hid (tmul (tmul (tsq s 2) s) a = e) := ⟨_, rfl⟩
  rw [He.out] at he
  have ho5 := tones_lt ha 250
  obtain ⟨o, Ho⟩ : ∃ o, Hid (tones a 250 = o) := ⟨_, rfl⟩
  rw [Ho.out] at ho5
  have Hfin : Hid (tmul (tsq o 5) e % pp = finv a) := inv_power Ho.out Hs.out He.out
  obtain ⟨x, Hx⟩ : ∃ x, Hid (finv a = x) := ⟨_, rfl⟩
  rw [Hx.out]
  go_enter Tryd.func45, Tryd.ntmps45
  go_upto_region 1 with fail
  have hK := ((Kp.nil w).alloc (B32 (bdig a)) 22).alloc (B32 fun _ => 0) 22
  rw [World.size_alloc] at hK
  generalize (w.alloc (.cells (B32 (bdig a)) 22)).alloc (.cells (B32 fun _ => 0) 22) = W at *
  obtain ⟨bA, H1⟩ : ∃ bA, Hid (w.heap.size = bA) := ⟨_, rfl⟩
  obtain ⟨bR, H2⟩ : ∃ bR, Hid (bA + 1 = bR) := ⟨_, rfl⟩
  have hleR : w.heap.size ≤ bR := by have := H1.out; have := H2.out; omega
  rw [H1.out, H2.out] at hK ⊢
  go_wp2_with (refine wpList_load_own (by rfl) 22 (.tmp 1) (by rfl) bA (by rfl) (B32 (bdig a)) _ hK.h2 Tryd.underlying22 (by rfl) (B32_info _) ?_)
  refine (read_any a W).mono ?_
  rintro r W1 ⟨rfl, bw⟩
  have hK := hK.below bw
  have lR := hK.h1.lt
  go_upto_region 2 with (refine wpList_store_new (by rfl) 97 (.tmp 3) (.tmp 7) (by rfl) _ (numA a) (by rfl) (by rfl) infoFN rfl (numA_one _) (by rfl) ?_)
  have hK := hK.alloc (numA a) 97
  generalize W1.alloc (.cells (numA a) 97) = W2 at *
  obtain ⟨bN, H3⟩ : ∃ bN, Hid (W1.heap.size = bN) := ⟨_, rfl⟩
  rw [H3.out] at hK lR ⊢
  have hK : Kp [(bN, numA a, 97), (bR, B32 fun _ => 0, 22)] w W2 := hK.sub (by simp)
  go_wp2_with (refine wpList_load_own (by rfl) 97 (.tmp 3) (by rfl) bN (by rfl) (numA a) _ hK.h1 Tryd.underlying97 (by rfl) infoFN ?_)
  refine (squared_any a 1 ha (by decide) W2).mono ?_
  rintro r W3 ⟨rfl, bw⟩
  rw [Hs.out]
  have hK := hK.below bw
  go_upto_region 3 with (refine wpList_store_new (by rfl) 97 (.tmp 4) (.tmp 9) (by rfl) _ (numA s) (by rfl) (by rfl) infoFN rfl (numA_one _) (by rfl) ?_)
  have hK := hK.alloc (numA s) 97
  generalize W3.alloc (.cells (numA s) 97) = W4 at *
  obtain ⟨bS, H4⟩ : ∃ bS, Hid (W3.heap.size = bS) := ⟨_, rfl⟩
  rw [H4.out] at hK ⊢
  refine wp_region_lv 22 (fun _ => [(bS, numA s, 97), (bN, numA a, 97), (bR, B32 fun _ => 0, 22)]) [.v (.agg (numA (s))), .v (.agg (numA (tsq s 2))), .v (.agg (numA (s))), .v (.agg (numA (tmul (tsq s 2) s))), .v (.agg (numA (a))), .v (.agg (numA (tmul (tmul (tsq s 2) s) a))), .mk (Q4 0 0 0 0) (numA (tmul (tmul (tsq s 2) s) a)) 97 7, .o] hK (by kernel_rfl) (by kernel_rfl) (by kernel_rfl) (by rfl) ?_ ?_
  · exact .c (.ld bS (fun _ => .head _) Tryd.underlying97 rfl infoFN) <| .c (.ca fun _ _ _ => squared_any s 2 hs (by decide) _) <| .c (.ld bS (fun _ => .head _) Tryd.underlying97 rfl infoFN) <| .c (.ca fun _ _ _ => ptimes_any _ _ (tsq_lt hs 2) hs _) <| .c (.ld bN (fun _ => .tail _ (.head _)) Tryd.underlying97 rfl infoFN) <| .c (.ca fun _ _ _ => ptimes_any _ _ (tmul_lt (tsq_lt hs 2) hs) ha _) <| .c (.al hz2) <| .c (.st 6 infoFN (numA_one _)) .nil
  · intro vs wq hJ hf
    obtain ⟨g, hg⟩ := hf 6 _ _ rfl rfl
    obtain ⟨hgl, hgn, hog⟩ := hJ.got 6 hg
    have hK := hJ.1.cons hog
    simp only [putL, Lv.val, Nat.zero_add, Nat.reduceAdd, hg, Act.put, List.setIfInBounds_toArray, List.set_cons_succ, List.set_cons_zero]
    rw [He.out] at hK ⊢
    have ngR : bR ≠ g := hgn (bR, B32 fun _ => 0, 22) (by simp)
    have hK : Kp [(bR, B32 fun _ => 0, 22), (g, numA e, 97), (bN, numA a, 97)] w wq := hK.sub (by simp)
    go_upto_region 4 with fail
    refine wp_region_lv 22 (fun L => [(bR, if L 6 = true then B32 (bdig (tmul (tsq o 5) e % pp)) else B32 fun _ => 0, 22), (g, numA e, 97), (bN, numA a, 97)]) [.v (.agg (numA (a))), .v (.agg (numA (o))), .v (.agg (numA (tsq o 5))), .v (.agg (numA (e))), .v (.agg (numA (tmul (tsq o 5) e))), .v (.agg (B32 (bdig (tmul (tsq o 5) e % pp)))), .o] hK (by kernel_rfl) (by kernel_rfl) (by kernel_rfl) (by rfl) ?_ ?_
    · exact .c (.ld bN (fun _ => .tail _ (.tail _ (.head _))) Tryd.underlying97 rfl infoFN) <| .c (.ca fun _ wc hkx => by have h := ones_any a ha 250 (by decide) (by decide) wc; rw [Ho.out] at h; exact h) <| .c (.ca fun _ _ _ => squared_any o 5 ho5 (by decide) _) <| .c (.ld g (fun _ => .tail _ (.head _)) Tryd.underlying97 rfl infoFN) <| .c (.ca fun _ _ _ => ptimes_any _ _ (tsq_lt ho5 5) he _) <| .c (.ca fun _ _ hkx => write_any _ (tmul_lt (tsq_lt ho5 5) he) _ (hT.kp hkx)) <| .c (.sk bR (.hr (fun _ => rfl) (fun _ => rfl) (fun _ => by simp; omega)) hleR (B32_info _) (B32_one _)) .nil
    · intro _ wz hJ _
      have hK : Kp [(bR, B32 (bdig (tmul (tsq o 5) e % pp)), 22), (g, numA e, 97), (bN, numA a, 97)] w wz := hJ.1
      simp only [putL, Lv.val, Act.put, List.setIfInBounds_toArray, List.set_cons_succ, List.set_cons_zero]
      go_wp2_with fail
      exact bodyPost_ret (results_own Tryd.results45 _ _ bR (B32 (bdig (tmul (tsq o 5) e % pp))) _ (by rfl) hK.h1 Tryd.underlying22 rfl (B32_info _)) rfl ⟨by rw [Hfin.out, Hx.out], hK.2⟩
end Go.Proofs.YtgibllaifnnfkaaDoor
