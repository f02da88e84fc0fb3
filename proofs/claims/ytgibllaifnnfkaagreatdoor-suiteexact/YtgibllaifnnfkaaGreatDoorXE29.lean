/- Of the texts UP2, E13, SA: what the card of this claim reaches. -/
import Derived.Test.YtgibllaifnnfkaaGreatDoorXE28
import Derived.Test.YtgibllaifnnfkaaGreatDoorXE23
import Derived.Test.YtgibllaifnnfkaaGreatDoorXE3
import Derived.Test.YtgibllaifnnfkaaGreatDoorXE8
import Derived.Test.YtgibllaifnnfkaaGreatDoorXE4
namespace Go.Proofs.YtgibllaifnnfkaaGreatDoor
open Go Go.RowKit
set_option maxRecDepth 100000 in
set_option maxHeartbeats 2000000 in
theorem popen_at {p a b : Nat} {ta : Option Addr} {tc : Nat} {m : List Int} (Ha : Hid (oR p m = a)) (Hb : Hid (oS p m = b)) (hl : m.length ≤ 1000) (w : World) (hm : Txt w ta tc m) : Calls Tryz.prog 20 #[.agg (B32 (bdig p)), .slice ta m.length tc] w fun x w' => x = .returned (.agg (B64 (bdig (two a b)))) ∧ Below w.heap.size w w' := by
  have hz := (zero_of_info zeroB32).1
  have hz64 := (zero_of_info zeroB64).1
  have lA : Hid (a < R256) := by show _ < _; rw [← Ha.out]; exact hn_lt _
  go_enter Tryz.func20, Tryz.ntmps20
  go_upto_region 1 with fail
  have hK := ((Kp.nil w).alloc (B32 (bdig p)) 22).alloc (B64 fun _ => 0) 24
  rw [World.size_alloc] at hK
  generalize (w.alloc (.cells (B32 (bdig p)) 22)).alloc (.cells (B64 fun _ => 0) 24) = W at *
  obtain ⟨bA, HA⟩ : ∃ b, Hid (w.heap.size = b) := ⟨_, rfl⟩
  obtain ⟨bR, HR⟩ : ∃ b, Hid (bA + 1 = b) := ⟨_, rfl⟩
  have leR : w.heap.size ≤ bR := by have := HA.out; have := HR.out; omega
  rw [HA.out, HR.out] at hK ⊢
  refine wp_region_ls 27 (fun _ => [(bR, B64 (fun _ => 0), 24), (bA, B32 (bdig p), 22)]) [.bs [.inr (.int .u8 2)] 5, .v (.slice (some ⟨bA, 0, none⟩) 32 32), .v (.slice ta m.length tc), .bs [.inl 0, .inr (.slice (some ⟨bA, 0, none⟩) 32 32), .inr (.slice ta m.length tc)] 23, .ow (txR (2 :: (by32 p ++ m))), .v (.agg (B32 (bdig a))), .mk (B32 fun _ => 0) (B32 (bdig a)) 22 7, .o] hK (by kernel_rfl) (by kernel_rfl) (by rfl) ?_ ?_
  · exact .c (.bl Tryz.underlying23 infoE5) <| .c (.p1 2 (.pointer (some ⟨bA, 0, none⟩))) <| .c (.p1 1 (.slice ta m.length tc)) <| .c (.bl Tryz.underlying70 infoE23 (h1 := fun _ _ _ hA k hk => by
      simp at hk
      subst hk
      obtain ⟨-, g, e, -⟩ := hA.row 0
      rw [e]
      rfl)) <| .c (.co (fun vs => #[vs 3]) fun _ vs w hA => by
      obtain ⟨h0, g, e, ho⟩ := hA.row 3
      obtain ⟨-, g0, e0, ho0⟩ := hA.j.bs 0 _ _ rfl (h0 0 (.head _))
      have hr := rows_at ho (show TxL w [vs 0, _, _] [[2], by32 p, m] from ⟨by rw [e0]; exact tx_byte ho0 (by decide), tx_bytes (hA.j.kp.at bA (B32 (bdig p)) 22 (.tail _ (.head _))), ⟨ta, tc, rfl, hm.below hA.j.kp.2⟩, trivial⟩)
      rw [e]
      exact pjoin_co (l := 2 :: (by32 p ++ m)) (by simp) (by simp [by32_length]; omega) w hr) <| .c (.cj (fun vs => #[vs 4]) fun _ vs w hA => psum256 Ha.out (by simp [by32_length]; omega) w (hA.own 4)) <| .c (.al hz) <| .c (.st 6 (B32_info _) (B32_one _)) .nil
  intro vs V1 hJ hf
  obtain ⟨g5, eg5⟩ := hf 6 _ _ rfl rfl
  obtain ⟨le_g5, ap_g5, o_g5⟩ := hJ.got 6 eg5
  have hK := hJ.1.cons o_g5
  simp only [putL, Lv.val, Nat.zero_add, Nat.reduceAdd, eg5, Act.put, List.setIfInBounds_toArray, List.set_cons_succ, List.set_cons_zero]
  have n5R : Hid (bR ≠ g5) := ap_g5 _ (.head _)
  generalize vs 4 = y4, vs 3 = y3, vs 0 = y0 at *
  clear hJ hf eg5 ap_g5 vs
  go_upto_region 2 with fail
  refine wp_region_ls 27 (fun _ => [(g5, B32 (bdig a), 22), (bR, B64 (fun _ => 0), 24), (bA, B32 (bdig p), 22)]) [.bs [.inr (.int .u8 3)] 5, .v (.slice (some ⟨bA, 0, none⟩) 32 32), .v (.slice ta m.length tc), .bs [.inl 0, .inr (.slice (some ⟨bA, 0, none⟩) 32 32), .inr (.slice ta m.length tc)] 23, .ow (txR (3 :: (by32 p ++ m))), .v (.agg (B32 (bdig b))), .mk (B32 fun _ => 0) (B32 (bdig b)) 22 7, .o] hK (by kernel_rfl) (by kernel_rfl) (by rfl) ?_ ?_
  · exact .c (.bl Tryz.underlying23 infoE5) <| .c (.p1 2 (.pointer (some ⟨bA, 0, none⟩))) <| .c (.p1 1 (.slice ta m.length tc)) <| .c (.bl Tryz.underlying70 infoE23 (h1 := fun _ _ _ hA k hk => by
      simp at hk
      subst hk
      obtain ⟨-, g, e, -⟩ := hA.row 0
      rw [e]
      rfl)) <| .c (.co (fun vs => #[vs 3]) fun _ vs w hA => by
      obtain ⟨h0, g, e, ho⟩ := hA.row 3
      obtain ⟨-, g0, e0, ho0⟩ := hA.j.bs 0 _ _ rfl (h0 0 (.head _))
      have hr := rows_at ho (show TxL w [vs 0, _, _] [[3], by32 p, m] from ⟨by rw [e0]; exact tx_byte ho0 (by decide), tx_bytes (hA.j.kp.at bA (B32 (bdig p)) 22 (.tail _ (.tail _ (.head _)))), ⟨ta, tc, rfl, hm.below hA.j.kp.2⟩, trivial⟩)
      rw [e]
      exact pjoin_co (l := 3 :: (by32 p ++ m)) (by simp) (by simp [by32_length]; omega) w hr) <| .c (.cj (fun vs => #[vs 4]) fun _ vs w hA => psum256 Hb.out (by simp [by32_length]; omega) w (hA.own 4)) <| .c (.al hz) <| .c (.st 6 (B32_info _) (B32_one _)) .nil
  intro vs V2 hJ hf
  obtain ⟨g6, eg6⟩ := hf 6 _ _ rfl rfl
  obtain ⟨le_g6, ap_g6, o_g6⟩ := hJ.got 6 eg6
  have hK := hJ.1.cons o_g6
  simp only [putL, Lv.val, Nat.zero_add, Nat.reduceAdd, eg6, Act.put, List.setIfInBounds_toArray, List.set_cons_succ, List.set_cons_zero]
  have n56 : Hid (g5 ≠ g6) := ap_g6 _ (.head _)
  have n6R : Hid (bR ≠ g6) := ap_g6 _ (.tail _ (.head _))
  generalize vs 4 = z4, vs 3 = z3, vs 0 = z0 at *
  clear hJ hf eg6 ap_g6 vs
  go_upto_region 3 with fail
  refine wp_region_ls 27 (fun _ => [(g6, B32 (bdig b), 22), (g5, B32 (bdig a), 22), (bR, B64 (fun _ => 0), 24)]) [.mk (B64 fun _ => 0) (B64 fun _ => 0) 24 1000] (hK.sub (by simp)) (by kernel_rfl) (by kernel_rfl) (by rfl) (.c (.an hz64) .nil) ?_
  intro vs V3 hJ hf
  obtain ⟨g7, eg7⟩ := hf 0 _ _ rfl rfl
  obtain ⟨le_g7, ap_g7, o_g7⟩ := hJ.got0 0 eg7
  have hK := hJ.1.cons o_g7
  simp only [putL, Lv.val, eg7, Act.put, List.setIfInBounds_toArray, List.set_cons_succ, List.set_cons_zero]
  have n67 : Hid (g6 ≠ g7) := ap_g7 _ (.head _)
  have n57 : Hid (g5 ≠ g7) := ap_g7 _ (.tail _ (.head _))
  have n7R : Hid (bR ≠ g7) := ap_g7 _ (.tail _ (.tail _ (.head _)))
  clear hJ hf eg7 ap_g7 vs
  go_upto_region 4 with fail
  refine wp_region_lv 27 (fun L => [(g7, if L 2 = true then B64 (bdig (two a 0)) else B64 fun _ => 0, 24), (g6, B32 (bdig b), 22), (g5, B32 (bdig a), 22), (bR, B64 (fun _ => 0), 24)]) [.v (.slice (some ⟨g7, 0, none⟩) 32 64), .v (.slice (some ⟨g5, 0, none⟩) 32 32), .v (.int .i64 32)] hK (by kernel_rfl) (by kernel_rfl) (by kernel_rfl) (by rfl) ?_ ?_
  · exact .c (.p1 7 (.pointer (some ⟨g7, 0, none⟩))) <| .c (.p1 5 (.pointer (some ⟨g5, 0, none⟩))) <| .c (.xr [(20, .slice (some ⟨g7, 0, none⟩) 32 64), (21, .slice (some ⟨g5, 0, none⟩) 32 32)] g7 (.hr (fun _ => rfl) (fun _ => rfl) fun _ => fc n67 <| fc n57 <| fc n7R fn) le_g7.out fun _ _ wc _ _ hfx _ hkx hjo hx => by
      have hrg : wc.rangeAt g5 0 (B32 (bdig a)).toList := (hkx.at g5 (B32 (bdig a)) 22 (.tail _ (.tail _ (.head _)))).range
      refine wp_copy_at (.tmp 20) (.tmp 21) 23 23 rfl 5 Tryz.underlying23 infoU8s g7 0 32 64 g5 0 32 32 (hfx _ (.head _)) (hfx _ (.tail _ (.head _))) hjo _ hrg (by rw [B32_len0]; rfl) (by rw [B32_len0, B64_size]; decide) (B32_ones _) ?_
      rw [join_lo lA.out, B32_len0]
      exact hx _ rfl) .nil
  intro _ V4 hJ _
  have hK : Kp [(g7, B64 (bdig (two a 0)), 24), (g6, B32 (bdig b), 22), (g5, B32 (bdig a), 22), (bR, B64 (fun _ => 0), 24)] w V4 := hJ.1
  clear hJ
  simp only [putL, Lv.val, Act.put, List.setIfInBounds_toArray, List.set_cons_succ, List.set_cons_zero]
  go_upto_region 5 with fail
  refine wp_region_lv 27 (fun L => [(g7, if L 2 = true then B64 (bdig (two a b)) else B64 (bdig (two a 0)), 24), (g6, B32 (bdig b), 22), (g5, B32 (bdig a), 22), (bR, B64 (fun _ => 0), 24)]) [.v (.slice (some ⟨g7, 32, none⟩) 32 32), .v (.slice (some ⟨g6, 0, none⟩) 32 32), .v (.int .i64 32)] hK (by kernel_rfl) (by kernel_rfl) (by kernel_rfl) (by rfl) ?_ ?_
  · exact .c (.p1 7 (.pointer (some ⟨g7, 0, none⟩))) <| .c (.p1 6 (.pointer (some ⟨g6, 0, none⟩))) <| .c (.xr [(23, .slice (some ⟨g7, 32, none⟩) 32 32), (24, .slice (some ⟨g6, 0, none⟩) 32 32)] g7 (.hr (fun _ => rfl) (fun _ => rfl) fun _ => fc n67 <| fc n57 <| fc n7R fn) le_g7.out fun _ _ wc _ _ hfx _ hkx hjo hx => by
      have hrg : wc.rangeAt g6 0 (B32 (bdig b)).toList := (hkx.at g6 (B32 (bdig b)) 22 (.tail _ (.head _))).range
      refine wp_copy_at (.tmp 23) (.tmp 24) 23 23 rfl 5 Tryz.underlying23 infoU8s g7 32 32 32 g6 0 32 32 (hfx _ (.head _)) (hfx _ (.tail _ (.head _))) hjo _ hrg (by rw [B32_len0]; rfl) (by rw [B32_len0, B64_size]; decide) (B32_ones _) ?_
      rw [join_hi lA.out b, B32_len0]
      exact hx _ rfl) .nil
  intro _ V5 hJ _
  have hK : Kp [(g7, B64 (bdig (two a b)), 24), (g6, B32 (bdig b), 22), (g5, B32 (bdig a), 22), (bR, B64 (fun _ => 0), 24)] w V5 := hJ.1
  clear hJ
  simp only [putL, Lv.val, Act.put, List.setIfInBounds_toArray, List.set_cons_succ, List.set_cons_zero]
  go_upto_region 6 with fail
  refine wp_region_ls 27 (fun L => [(g7, B64 (bdig (two a b)), 24), (bR, if L 1 = true then B64 (bdig (two a b)) else B64 fun _ => 0, 24)]) [.v (.agg (B64 (bdig (two a b)))), .o] (hK.sub (by simp)) (by kernel_rfl) (by kernel_rfl) (by rfl) (.c (.ld g7 (fun _ => .head _) Tryz.underlying24 rfl (B64_info _)) <| .c (.sk bR (.nx (fun _ => rfl) (fun _ => rfl) (fun _ => Ne.symm n7R.out) <| .hr (fun _ => rfl) (fun _ => rfl) fun _ => fn) leR (B64_info _) (B64_one _)) .nil) ?_
  intro _ V6 hJ _
  have hK : Kp [(g7, B64 (bdig (two a b)), 24), (bR, B64 (bdig (two a b)), 24)] w V6 := hJ.1
  simp only [putL, Lv.val, Act.put, List.setIfInBounds_toArray, List.set_cons_succ, List.set_cons_zero]
  go_wp2_with fail
  exact bodyPost_ret (results_own Tryz.results20 _ _ bR (B64 (bdig (two a b))) _ (by rfl) (hK.at bR (B64 (bdig (two a b))) 24 (.tail _ (.head _))) Tryz.underlying24 rfl (B64_info _)) rfl ⟨rfl, hK.2⟩
end Go.Proofs.YtgibllaifnnfkaaGreatDoor
namespace Go.Proofs.YtgibllaifnnfkaaGreatDoor
open Go.RowKit
set_option maxRecDepth 100000 in
set_option maxHeartbeats 8000000 in
theorem of_any (a : Nat) (ha : a < R256) (w : World) : Calls Tryz.prog 65 #[.agg (B32 (bdig a))] w fun x w' => x = .returned (.agg (numA a)) ∧ Below w.heap.size w w' := by
  have hz := (zero_of_info zeroNum).1
  go_enter Tryz.func65, Tryz.ntmps65
  go_wp2_with fail
  have hK0 := (((Kp.nil w).alloc (B32 (bdig a)) 22).alloc (numA 0) 54).alloc (numA 0) 54
  rw [World.size_alloc, World.size_alloc] at hK0
  rw [← zero_num]
  generalize ((w.alloc (.cells (B32 (bdig a)) 22)).alloc (.cells (numA 0) 54)).alloc (.cells (numA 0) 54) = W at *
  obtain ⟨bA, HA⟩ : ∃ bA, Hid (w.heap.size = bA) := ⟨_, rfl⟩
  obtain ⟨bR, HR⟩ : ∃ bR, Hid (bA + 1 = bR) := ⟨_, rfl⟩
  obtain ⟨bO, HO⟩ : ∃ bO, Hid (bR + 1 = bO) := ⟨_, rfl⟩
  have hle : w.heap.size ≤ bR := by have := HA.out; have := HR.out; omega
  have hleO : w.heap.size ≤ bO := by have := HO.out; omega
  have n1 : bA ≠ bO := by have := HR.out; have := HO.out; omega
  have n2 : bR ≠ bO := by have := HO.out; omega
  rw [HA.out, HR.out, HO.out] at hK0 ⊢
  go_loopw [4] (fun ii wr => ∃ (k x : Nat), k ≤ 32 ∧ ii = .int .i64 (k : Int) ∧ x < 256 ^ k ∧ Hid (x = a % 256 ^ k) ∧ Kp [(bO, numA x, 54), (bR, numA 0, 54), (bA, B32 (bdig a), 22)] w wr) (fun ii _ => 32 - (intOf ii).toNat)
  case atStart => exact ⟨0, 0, by omega, rfl, by decide, by show _ = _; rw [Nat.pow_zero, Nat.mod_one], hK0⟩
  case round =>
    obtain ⟨k, x, hk, rfl, hx, Hx, hKr⟩ := hrel
    have hk0 : (0 : Int) ≤ (k : Int) := by omega
    by_cases hlt : k < 32
    · have hki : (k : Int) < 32 := by omega
      have hd4 : k / 8 < 4 := by omega
      have cA := (hKr.at bA (B32 (bdig a)) 22 (by simp)).cell (B32_at (bdig a) k hlt)
      have cO := (hKr.at bO (numA x) 54 (by simp)).cell (numA_at x (k / 8) hd4)
      have fO := (hKr.at bO (numA x) 54 (by simp)).frozen (k / 8)
      have hc := bdig_lt a k
      have hdv : (k : Int).tdiv 8 = ((k / 8 : Nat) : Int) := by rw [Int.tdiv_eq_ediv_of_nonneg (by omega)]; omega
      have hmd : (k : Int).tmod 8 = ((k % 8 : Nat) : Int) := by rw [Int.tmod_eq_emod_of_nonneg (by omega)]; omega
      have hd40 : (0 : Int) ≤ ((k / 8 : Nat) : Int) := by omega
      have hd41 : ((k / 8 : Nat) : Int) < 4 := by omega
      have hm0 : (0 : Int) ≤ 8 * ((k % 8 : Nat) : Int) := by omega
      have hm1 : 8 * ((k % 8 : Nat) : Int) < 64 := by omega
      have hm2 : ((k % 8 : Nat) : Int) < 8 := by omega
      have hm3 : (0 : Int) ≤ ((k % 8 : Nat) : Int) := by omega
      have hs := shl_byte (k := k) hc
      have hor := or_byte hx hc
      have hK1 := Kp.setCell (i := k / 8) (v := .int .u64 ((dig x (k / 8) + bdig a k * 256 ^ (k % 8) : Nat) : Int)) hKr (by simp; omega) hleO
      have hK2 : Kp [(bO, numA (a % 256 ^ (k + 1)), 54), (bR, numA 0, 54), (bA, B32 (bdig a), 22)] w (wr.setCell ⟨bO, k / 8, none⟩ (.int .u64 ((dig x (k / 8) + bdig a k * 256 ^ (k % 8) : Nat) : Int))) := by
        have e : (numA x).setIfInBounds (k / 8) (.int .u64 ((dig x (k / 8) + bdig a k * 256 ^ (k % 8) : Nat) : Int)) = numA (a % 256 ^ (k + 1)) := by
          unfold numA
          rw [A4_set _ _ _ hd4, mod_more, ← Hx.out]
          exact A4_congr fun j _ => (dig_more hx hc j).symm
        rw [e] at hK1
        exact hK1
      have HK2 := show Hid _ from hK2
      clear hK1 hK2
      have hc0 : (0 : Int) ≤ ((bdig a k : Nat) : Int) := by omega
      have hc1 : ((bdig a k : Nat) : Int) < 256 := by omega
      generalize dig x (k / 8) + bdig a k * 256 ^ (k % 8) = v at *
      generalize bdig a k * 256 ^ (k % 8) = u at *
      generalize hCC : bdig a k = c at cA hs hc0 hc1
      clear hCC
      generalize dig x (k / 8) = d at *
      generalize k / 8 = D at *
      generalize k % 8 = M at *
      go_wp2_with fail
      go_region
      go_wp2_with fail
      refine ⟨⟨k + 1, a % 256 ^ (k + 1), by omega, by go_num, Nat.mod_lt _ (Nat.pow_pos (by decide)), rfl, Kp.below HK2.out ((Below.refl _ _).drew)⟩, by simp [intOf]; omega⟩
    · have hki : ¬ (k : Int) < 32 := by omega
      have He : Hid (x = a) := by
        show _ = _
        have hk32 : k = 32 := by omega
        rw [Hx.out, hk32]
        exact Nat.mod_eq_of_lt ha
      go_upto_region 6 with fail
      go_wp2_with (first
        | refine wpList_load_own (by rfl) 54 (.tmp 3) (by rfl) bO (by rfl) (numA x) _ (hKr.at bO (numA x) 54 (by simp)) Tryz.underlying54 (by rfl) (numA_info x) ?_
        | refine wpList_store_own (by rfl) 54 (.tmp 2) (.tmp 24) (by rfl) bR 0 (numA x) (by rfl) (by rfl) (hKr.at bR (numA 0) 54 (by simp)) (Nat.le_refl _) (numA_info x) (numA_one x) (by rfl) ?_)
      refine bodyPost_ret (results_own Tryz.results65 _ _ bR (numA x) _ (by rfl) (own_setCells (hKr.at bR (numA 0) 54 (by simp)) (numA_sizes x 0)) Tryz.underlying54 rfl (numA_info x)) rfl ⟨by rw [He.out], ?_⟩
      exact Below.setCells _ _ _ _ hle hKr.2
end Go.Proofs.YtgibllaifnnfkaaGreatDoor
namespace Go.Proofs.YtgibllaifnnfkaaGreatDoor
open Go.RowKit
theorem modL_half {t i n b : Nat} (hn : n = t / 2 ^ (i + 1) % LL) (hb : t / 2 ^ i % 2 = b) : t / 2 ^ i % LL = (n + n + b) % LL := by
  have h : t / 2 ^ i = t / 2 ^ (i + 1) * 2 + b := by
    have : t / 2 ^ (i + 1) = t / 2 ^ i / 2 := by rw [Nat.pow_succ, Nat.div_div_eq_div_mul]
    omega
  rw [h, hn]
  generalize t / 2 ^ (i + 1) = x
  rw [Nat.add_mod (x % LL + x % LL), ← Nat.add_mod x x, ← Nat.add_mod, Nat.mul_two]
theorem modL_low {t i n b s : Nat} (hn : n = t / 2 ^ (i + 1) % LL) (hb : t / 2 ^ i % 2 = b) (hs : n + n + b = s) (hl : s < LL) : s = t / 2 ^ i % LL := by
  rw [modL_half hn hb, hs, Nat.mod_eq_of_lt hl]
theorem modL_high {t i n b s y : Nat} (hn : n = t / 2 ^ (i + 1) % LL) (hb : t / 2 ^ i % 2 = b) (hs : n + n + b = s) (hy : s = y + LL) (hl : y < LL) : y = t / 2 ^ i % LL := by
  rw [modL_half hn hb, hs, hy, Nat.add_mod_right, Nat.mod_eq_of_lt hl]
theorem pow_two_add {a b n A B : Nat} (ha : 2 ^ a = A) (hb : 2 ^ b = B) (e : n = a + b) : 2 ^ n = A * B := by rw [e, Nat.pow_add, ha, hb]
theorem two512 {n : Nat} (e : n = 256 + 256) : 2 ^ n = R512 := (pow_two_add (show 2 ^ 256 = R256 by decide) (show 2 ^ 256 = R256 by decide) e).trans R512_eq.symm
theorem modL_from (t n : Nat) (e : n = 256 + 256) (ht : t < R512) : 0 = t / 2 ^ n % LL := by
  rw [two512 e, Nat.div_eq_of_lt ht, Nat.zero_mod]
theorem A4_upd {f : Nat → Nat} {k v n : Nat} (hk : k < 4) (hf : ∀ i, i < 4 → f i < 18446744073709551616) (hv : v < 18446744073709551616) (e : vl (upd f k v) 4 = n) : (A4 f).setIfInBounds k (.int .u64 (v : Int)) = numA n := by
  rw [A4_set f k v hk, ← e]
  exact A4_num _ fun i hi => by
    by_cases h : i = k
    · rw [h, upd_same]; exact hv
    · rw [upd_other _ _ _ _ h]; exact hf i hi
theorem or_end (s b : Nat) (hb : b < 2) (hs : s % 2 = 0) : bits .or .u64 (dig s 0 : Int) (b : Int) = ((dig s 0 + b : Nat) : Int) := by
  have h0 : dig s 0 % 2 = 0 := by
    unfold dig
    rw [Nat.pow_zero, Nat.div_one]; omega
  rw [u64_or_nat (dig s 0) b (dig_lt s 0) (by omega), Nat.or_comm, nat_join1' (dig s 0) b h0 hb]
theorem num_end {s b n : Nat} (hs : s < R256) (h2 : s % 2 = 0) (hb : b < 2) (hn : s + b = n) : (numA s).setIfInBounds 0 (.int .u64 ((dig s 0 + b : Nat) : Int)) = numA n := by
  have h0 : dig s 0 % 2 = 0 := by
    unfold dig
    rw [Nat.pow_zero, Nat.div_one]; omega
  have hd := dig_lt s 0
  refine A4_upd (by decide) (fun i _ => dig_lt s i) (by omega) ?_
  have h := vl_upd_eq (dig s) 0 (dig s 0 + b) 4 (by decide)
  rw [vl_num s hs, Nat.pow_zero] at h
  omega
theorem even_sum {n s : Nat} (h : n + n = s) : s % 2 = 0 := by omega
end Go.Proofs.YtgibllaifnnfkaaGreatDoor
namespace Go.Proofs.YtgibllaifnnfkaaGreatDoor
open Go.RowKit
theorem add_fitL {a b s : Nat} (ha : a < R256) (hb : b < R256) (hs : a + b = s) (h : s < R256) (w : World) :
    Calls Tryz.prog 102 #[.agg (numA a), .agg (numA b)] w fun e w' => e = .returned (.tuple #[.agg (numA s), .int .u64 0]) ∧ Below w.heap.size w w' := by
  refine (add_any a b ha hb w).mono ?_
  rintro e w' ⟨⟨d, c, rfl, hd, hc, he⟩, hB⟩
  have : c = 0 ∨ c = 1 := by omega
  rcases this with rfl | rfl
  · obtain rfl : d = s := by omega
    exact ⟨rfl, hB⟩
  · omega
set_option maxRecDepth 100000 in
set_option maxHeartbeats 8000000 in
theorem modL_any (t : Nat) (ht : t < R512) (w : World) : Calls Tryz.prog 83 #[.agg (A8 (dig t))] w fun x w' => x = .returned (.agg (numA (t % LL))) ∧ Below w.heap.size w w' := by
  obtain ⟨r, Hr⟩ : ∃ r, Hid (t % LL = r) := ⟨_, rfl⟩
  rw [Hr.out]
  have hz := (zero_of_info zeroNum).1
  go_enter Tryz.func83, Tryz.ntmps83
  go_wp2_with fail
  have hK0 := (((Kp.nil w).alloc (A8 (dig t)) 80).alloc (numA 0) 54).alloc (numA 0) 54
  rw [World.size_alloc, World.size_alloc] at hK0
  rw [← zero_num]
  generalize ((w.alloc (.cells (A8 (dig t)) 80)).alloc (.cells (numA 0) 54)).alloc (.cells (numA 0) 54) = W at *
  obtain ⟨bT, HT⟩ : ∃ bT, Hid (w.heap.size = bT) := ⟨_, rfl⟩
  obtain ⟨bR, HR⟩ : ∃ bR, Hid (bT + 1 = bR) := ⟨_, rfl⟩
  obtain ⟨bO, HO⟩ : ∃ bO, Hid (bR + 1 = bO) := ⟨_, rfl⟩
  have hle : w.heap.size ≤ bR := by have := HT.out; have := HR.out; omega
  have hleO : w.heap.size ≤ bO := by have := HO.out; omega
  have n1 : bT ≠ bO := by have := HR.out; have := HO.out; omega
  have n2 : bR ≠ bO := by have := HO.out; omega
  rw [HT.out, HR.out, HO.out] at hK0 ⊢
  have hnot : ∀ p ∈ [(bR, numA 0, 54), (bT, A8 (dig t), 80)], p.1 ≠ bO := by simp; omega
  go_loopw [4] (fun ii wr => ∃ (j n : Nat), j ≤ 512 ∧ ii = .int .i64 ((j : Int) - 1) ∧ n < LL ∧ Hid (n = t / 2 ^ j % LL) ∧ Kp [(bO, numA n, 54), (bR, numA 0, 54), (bT, A8 (dig t), 80)] w wr) (fun ii _ => (intOf ii + 1).toNat)
  case atStart => exact ⟨512, 0, by omega, rfl, LL_pos, modL_from t 512 rfl ht, hK0⟩
  case round =>
    obtain ⟨j, n, hj, rfl, hnL, Hn, hKr⟩ := hrel
    have hn : n < R256 := Nat.lt_trans hnL LL_lt
    cases j with
    | zero =>
      rw [show (((0 : Nat) : Int) - 1) = -1 from rfl]
      have Hend : Hid (n = r) := by
        show _ = _
        rw [Hn.out, Nat.pow_zero, Nat.div_one, Hr.out]
      go_upto_region 9 with fail
      go_wp2_with (first
        | refine wpList_load_own (by rfl) 54 (.tmp 3) (by rfl) bO (by rfl) (numA n) _ hKr.h1 Tryz.underlying54 (by rfl) (numA_info n) ?_
        | refine wpList_store_own (by rfl) 54 (.tmp 2) (.tmp 38) (by rfl) bR 0 (numA n) (by rfl) (by rfl) hKr.h2 (Nat.le_refl _) (numA_info n) (numA_one n) (by rfl) ?_)
      refine bodyPost_ret (results_own Tryz.results83 _ _ bR (numA n) _ (by rfl) (own_setCells hKr.h2 (numA_sizes n 0)) Tryz.underlying54 rfl (numA_info n)) rfl ⟨by rw [Hend.out], ?_⟩
      exact Below.setCells _ _ _ _ hle hKr.2
    | succ i =>
      rw [show (((i + 1 : Nat) : Int) - 1) = (i : Int) by omega]
      have hi0 : (0 : Int) ≤ (i : Int) := by omega
      have hi1 : (i : Int) < 512 := by omega
      obtain ⟨s, Hs⟩ : ∃ s, Hid (n + n = s) := ⟨_, rfl⟩
      have h2L := twoL
      have hs : s < R256 := by have := Hs.out; omega
      have hs2 : s % 2 = 0 := even_sum Hs.out
      obtain ⟨b, Hb⟩ : ∃ b, Hid (t / 2 ^ i % 2 = b) := ⟨_, rfl⟩
      have hb : b < 2 := by rw [← Hb.out]; exact Nat.mod_lt _ (by decide)
      obtain ⟨u, Hu⟩ : ∃ u, Hid (s + b = u) := ⟨_, rfl⟩
      have hu : u < R256 := by have := Hu.out; have := Hs.out; omega
      have hu2 : Hid (u < 2 * LL) := by show _ < _; have := Hu.out; have := Hs.out; omega
      have Hnb : Hid (n + n + b = u) := by show _ = _; rw [Hs.out]; exact Hu.out
      clear h2L
      go_upto_region 5 with fail
      go_wp2_with (refine wpList_load_own (by rfl) 54 (.tmp 3) (by rfl) bO (by rfl) (numA n) _ hKr.h1 Tryz.underlying54 (by rfl) (numA_info n) ?_)
      refine (add_fitL hn hn Hs.out hs wr).mono ?_
      rintro x w1 ⟨rfl, hB1⟩
      have hK2 := hKr.below hB1
      have hK3 := hK2.set (A' := numA s) hnot hleO (numA_sizes s n)
      go_upto_region 6 with (refine wpList_store_own (by rfl) 54 (.tmp 3) (.tmp 13) (by rfl) bO 0 (numA s) (by rfl) (by rfl) hK2.h1 (Nat.le_refl _) (numA_info s) (numA_one s) (by rfl) ?_)
      generalize w1.setCells bO 0 (numA s).toList = W2 at *
      clear hK2 hB1
      have hdv : (i : Int).tdiv 64 = ((i / 64 : Nat) : Int) := by rw [Int.tdiv_eq_ediv_of_nonneg (by omega)]; omega
      have hmd : (i : Int).tmod 64 = ((i % 64 : Nat) : Int) := by rw [Int.tmod_eq_emod_of_nonneg (by omega)]; omega
      have hd8 : i / 64 < 8 := by omega
      have cO := hK3.h1.cell (numA_at s 0 (by decide))
      have fO := hK3.h1.frozen 0
      have cT := hK3.h3.cell (A8_at (dig t) (i / 64) hd8)
      have hbit := bit_u64 t i
      rw [Hb.out] at hbit
      have hor := or_end s b hb hs2
      have hd40 : (0 : Int) ≤ ((i / 64 : Nat) : Int) := by omega
      have hd41 : ((i / 64 : Nat) : Int) < 8 := by omega
      have hm0 : (0 : Int) ≤ ((i % 64 : Nat) : Int) := by omega
      have hm1 : ((i % 64 : Nat) : Int) < 64 := by omega
      have hK4 := Kp.setCell (i := 0) (v := .int .u64 ((dig s 0 + b : Nat) : Int)) hK3 hnot hleO
      rw [num_end hs hs2 hb Hu.out] at hK4
      have HK4 := show Hid _ from hK4
      clear hK4 hs2
      generalize dig s 0 + b = v at *
      generalize dig s 0 = e0 at *
      generalize dig t (i / 64) = e at *
      generalize i / 64 = D at *
      generalize i % 64 = M at *
      go_region
      have hK5 := Kp.below HK4.out ((Below.refl _ _).drew)
      clear hK3 HK4 cO fO cT hbit hor hdv hmd
      obtain ⟨d, Hd⟩ : ∃ d, Hid (decide (u < LL) = d) := ⟨_, rfl⟩
      go_upto_region 7 with fail
      refine wp_region_lv 39 (fun _ => [(bO, numA u, 54), (bR, numA 0, 54), (bT, A8 (dig t), 80)]) [.v (.agg (numA u)), .v (.agg (numA LL)), .v (.bool d), .v (.bool (!d))] hK5 (by kernel_rfl) (by kernel_rfl) (by kernel_rfl) (by rfl) ?_ ?_
      · exact .c (.ld bO (fun _ => .head _) Tryz.underlying54 rfl (numA_info _)) <| .c (.ca fun _ _ _ => L_any _) <| .c (.ca fun _ wc hkx => by have h := less_any u LL hu LL_lt wc; rw [Hd.out] at h; exact h) <| .c (.p1 30 (.bool d)) .nil
      · intro _ wq hJ _
        have hK6 := hJ.1
        simp only [putL, Lv.val, Act.put, List.setIfInBounds_toArray, List.set_cons_succ, List.set_cons_zero]
        clear hK5
        cases d with
        | true =>
          have hlt := of_decide_eq_true Hd.out
          have Hst := show Hid _ from modL_low Hn.out Hb.out Hnb.out hlt
          have HL := show Hid _ from hlt
          clear hlt
          go_wp2_with fail
          exact ⟨⟨i, u, by omega, rfl, HL.out, Hst.out, hK6⟩, by simp [intOf]⟩
        | false =>
          have hge := of_decide_eq_false Hd.out
          obtain ⟨y, Hy⟩ : ∃ y, Hid (u = y + LL) := ⟨u - LL, by show _ = _; omega⟩
          have HL : Hid (y < LL) := by show _ < _; have := Hy.out; have := hu2.out; omega
          have Hst := show Hid _ from modL_high Hn.out Hb.out Hnb.out Hy.out HL.out
          clear hge
          go_upto_region 8 with fail
          refine wp_region_lv 39 (fun L => [(bO, if L 6 = true then numA y else numA u, 54), (bR, numA 0, 54), (bT, A8 (dig t), 80)]) [.v (.agg (numA u)), .v (.agg (numA LL)), .v (.tuple #[.agg (numA y), .int .u64 0]), .v (.tuple #[.agg (numA y), .int .u64 0]), .v (.agg (numA y)), .v (.int .u64 0), .o] hK6 (by kernel_rfl) (by kernel_rfl) (by kernel_rfl) (by rfl) ?_ ?_
          · exact .c (.lq bO 6 false (fun L h => by rw [h]; exact .head _) Tryz.underlying54 rfl (numA_info _)) <| .c (.ca fun _ _ _ => L_any _) <| .c (.ca fun _ _ _ => sub_big hu LL_lt Hy.out _) <| .c (.p1 35 (.tuple #[.agg (numA y), .int .u64 0])) <| .c (.p1 32 (.tuple #[.agg (numA y), .int .u64 0])) <| .c (.p1 32 (.tuple #[.agg (numA y), .int .u64 0])) <| .c (.sk bO (.hr (fun _ => rfl) (fun _ => rfl) (fun _ => hnot)) hleO (numA_info _) (numA_one _)) .nil
          · intro _ wz hJ _
            have hK7 : Kp [(bO, numA y, 54), (bR, numA 0, 54), (bT, A8 (dig t), 80)] w wz := hJ.1
            simp only [putL, Lv.val, Act.put, List.setIfInBounds_toArray, List.set_cons_succ, List.set_cons_zero]
            clear hK6
            go_wp2_with fail
            exact ⟨⟨i, y, by omega, rfl, HL.out, Hst.out, hK7⟩, by simp [intOf]⟩
end Go.Proofs.YtgibllaifnnfkaaGreatDoor
namespace Go.Proofs.YtgibllaifnnfkaaGreatDoor
open Go.RowKit
theorem vb_bound (f : Nat → Nat) (n : Nat) (hn : n ≤ 64) (hf : ∀ i, i < n → f i < 256) : vb f n < R512 :=
  Nat.lt_of_lt_of_le (vb_lt f n hf) (Nat.le_trans (Nat.pow_le_pow_right (by decide) hn) (by decide))
theorem A8_bytes {x k c : Nat} (hx : x < 256 ^ k) (hc : c < 256) (hk : k / 8 < 8) : (A8 (dig x)).setIfInBounds (k / 8) (.int .u64 ((dig x (k / 8) + c * 256 ^ (k % 8) : Nat) : Int)) = A8 (dig (x + c * 256 ^ k)) := by
  rw [A8_set _ _ _ hk, Nat.mul_comm c (256 ^ k)]
  exact A8_congr fun j _ => (dig_more hx hc j).symm
set_option maxRecDepth 100000 in
set_option maxHeartbeats 8000000 in
theorem modLs_any (f : Nat → Nat) (n bS cap : Nat) (hn : n ≤ 64) (hf : ∀ i, i < n → f i < 256) (w : World) (hbS : bS < w.heap.size) (hcell : ∀ i, i < n → w.cell? ⟨bS, i, none⟩ = some (.int .u8 (f i : Int))) :
    Calls Tryz.prog 46 #[.slice (some ⟨bS, 0, none⟩) n cap] w fun x w' => x = .returned (.agg (B32 (bdig (vb f n % LL)))) ∧ Below w.heap.size w w' := by
  have hz := (zero_of_info zeroB32).1
  have hz8 := (zero_of_info zeroA8).1
  go_enter Tryz.func46, Tryz.ntmps46
  go_wp2_with fail
  have hK0 := ((Kp.nil w).alloc (B32 fun _ => 0) 22).alloc (A8 (dig 0)) 80
  rw [World.size_alloc] at hK0
  rw [show (A8 fun _ => 0) = A8 (dig 0) from rfl]
  generalize (w.alloc (.cells (B32 fun _ => 0) 22)).alloc (.cells (A8 (dig 0)) 80) = W at *
  obtain ⟨bR, HR⟩ : ∃ bR, Hid (w.heap.size = bR) := ⟨_, rfl⟩
  obtain ⟨bO, HO⟩ : ∃ bO, Hid (bR + 1 = bO) := ⟨_, rfl⟩
  have hle : w.heap.size ≤ bR := Nat.le_of_eq HR.out
  have hleO : w.heap.size ≤ bO := by have := HO.out; omega
  have n2 : bR ≠ bO := by have := HO.out; omega
  rw [HR.out, HO.out] at hK0 ⊢
  have hnot : ∀ p ∈ [(bR, B32 fun _ => 0, 22)], p.1 ≠ bO := by simp; omega
  go_loopw [4] (fun ii wr => ∃ (k x : Nat), k ≤ n ∧ ii = .int .i64 (k : Int) ∧ x < 256 ^ k ∧ Hid (vb f k = x) ∧ Kp [(bO, A8 (dig x), 80), (bR, B32 fun _ => 0, 22)] w wr) (fun ii _ => n - (intOf ii).toNat)
  case atStart => exact ⟨0, 0, by omega, rfl, by decide, rfl, hK0⟩
  case round =>
    obtain ⟨k, x, hk, rfl, hx, Hx, hKr⟩ := hrel
    have hk0 : (0 : Int) ≤ (k : Int) := by omega
    by_cases hlt : k < n
    · have hki : (k : Int) < (n : Int) := by omega
      have hd4 : k / 8 < 8 := by omega
      have cA := ((bcell hKr.2).1 bS k hbS).trans (hcell k hlt)
      have cO := hKr.h1.cell (A8_at (dig x) (k / 8) hd4)
      have fO := hKr.h1.frozen (k / 8)
      have hc := hf k hlt
      have hdv : (k : Int).tdiv 8 = ((k / 8 : Nat) : Int) := by rw [Int.tdiv_eq_ediv_of_nonneg (by omega)]; omega
      have hmd : (k : Int).tmod 8 = ((k % 8 : Nat) : Int) := by rw [Int.tmod_eq_emod_of_nonneg (by omega)]; omega
      have hd40 : (0 : Int) ≤ ((k / 8 : Nat) : Int) := by omega
      have hd41 : ((k / 8 : Nat) : Int) < 8 := by omega
      have hm0 : (0 : Int) ≤ 8 * ((k % 8 : Nat) : Int) := by omega
      have hm1 : 8 * ((k % 8 : Nat) : Int) < 64 := by omega
      have hm2 : ((k % 8 : Nat) : Int) < 8 := by omega
      have hm3 : (0 : Int) ≤ ((k % 8 : Nat) : Int) := by omega
      have hs := shl_byte (k := k) hc
      have hor := or_byte hx hc
      have hK1 := Kp.setCell (i := k / 8) (v := .int .u64 ((dig x (k / 8) + f k * 256 ^ (k % 8) : Nat) : Int)) hKr hnot hleO
      rw [A8_bytes hx hc hd4] at hK1
      have HK2 := show Hid _ from hK1
      have Hnew : Hid (x + f k * 256 ^ k < 256 ^ (k + 1) ∧ vb f (k + 1) = x + f k * 256 ^ k) := by
        have e : vb f (k + 1) = x + f k * 256 ^ k := by rw [vb, Hx.out]
        exact ⟨by rw [← e]; exact vb_lt f (k + 1) fun i hi => hf i (by omega), e⟩
      clear hK1
      have hc0 : (0 : Int) ≤ ((f k : Nat) : Int) := by omega
      have hc1 : ((f k : Nat) : Int) < 256 := by omega
      generalize x + f k * 256 ^ k = x' at *
      generalize dig x (k / 8) + f k * 256 ^ (k % 8) = v at *
      generalize f k * 256 ^ (k % 8) = u at *
      generalize hCC : f k = c at cA hs hc0 hc1
      clear hCC
      generalize dig x (k / 8) = d at *
      generalize k / 8 = D at *
      generalize k % 8 = M at *
      go_wp2_with fail
      go_region
      go_wp2_with fail
      refine ⟨⟨k + 1, x', by omega, by go_num, Hnew.out.1, Hnew.out.2, Kp.below HK2.out ((Below.refl _ _).drew)⟩, by simp [intOf]; omega⟩
    · have hki : ¬ (k : Int) < (n : Int) := by omega
      have hxR : x < R512 := by rw [← Hx.out]; exact vb_bound f k (by omega) fun i hi => hf i (by omega)
      have He : Hid (vb f n % LL = x % LL) := by
        show _ = _
        rw [← Hx.out, show k = n by omega]
      go_upto_region 6 with fail
      go_wp2_with (refine wpList_load_own (by rfl) 80 (.tmp 3) (by rfl) bO (by rfl) (A8 (dig x)) _ hKr.h1 Tryz.underlying80 (by rfl) infoA8 ?_)
      refine (modL_any x hxR _).mono ?_
      rintro e w1 ⟨rfl, b1⟩
      have hK1 := hKr.below b1
      go_wp2_with fail
      refine (bytesOf_any _ _).mono ?_
      rintro e w2 ⟨rfl, b2⟩
      have hK2 := hK1.below b2
      go_wp2_with (refine wpList_store_own (by rfl) 22 (.tmp 2) (.tmp 29) (by rfl) bR 0 (B32 (bdig (x % LL))) (by rfl) (by rfl) hK2.h2 (B32_le _ _) (B32_info _) (B32_one _) (by rfl) ?_)
      refine bodyPost_ret (results_own Tryz.results46 _ _ bR (B32 (bdig (x % LL))) _ (by rfl) (own_setCells hK2.h2 (B32_sizes _ _)) Tryz.underlying22 rfl (B32_info _)) rfl ⟨by rw [He.out], ?_⟩
      exact Below.setCells _ _ _ _ hle hK2.2
set_option maxRecDepth 100000 in
set_option maxHeartbeats 4000000 in
theorem below_any (a : Nat) (ha : a < R256) (w : World) : Calls Tryz.prog 35 #[.agg (B32 (bdig a))] w fun x w' => x = .returned (.bool (decide (a < LL))) ∧ Below w.heap.size w w' := by
  go_enter Tryz.func35, Tryz.ntmps35
  go_upto_region 1 with fail
  have hK := (Kp.nil w).alloc (B32 (bdig a)) 22
  generalize w.alloc (.cells (B32 (bdig a)) 22) = W at *
  obtain ⟨bA, HA⟩ : ∃ bA, Hid (w.heap.size = bA) := ⟨_, rfl⟩
  rw [HA.out] at hK ⊢
  go_wp2_with (refine wpList_load_own (by rfl) 22 (.tmp 1) (by rfl) bA (by rfl) (B32 (bdig a)) _ hK.h1 Tryz.underlying22 (by rfl) (B32_info _) ?_)
  refine (of_any a ha W).mono ?_
  rintro e w1 ⟨rfl, b1⟩
  have bw := bel hK.2 b1
  go_wp2_with fail
  refine (L_any w1).mono ?_
  rintro e w2 ⟨rfl, b2⟩
  have bw := bel bw b2
  go_wp2_with fail
  refine (less_any a LL ha LL_lt w2).mono ?_
  rintro e w3 ⟨rfl, b3⟩
  have bw := bel bw b3
  go_wp2
  go_ret
  exact ⟨rfl, bw⟩
theorem times_at {a b p : Nat} (ha : a < R256) (hb : b < R256) (hp : a * b = p) (w : World) : Calls Tryz.prog 84 #[.agg (numA a), .agg (numA b)] w fun e w' => e = .returned (.agg (A8 (dig p))) ∧ Below w.heap.size w w' := by
  refine (times_dig (dig a) (dig b) (fun i _ => dig_lt a i) (fun i _ => dig_lt b i) w).mono ?_
  rintro e w' ⟨⟨o, rfl, ho, he⟩, hB⟩
  rw [vl_num a ha, vl_num b hb, hp] at he
  exact ⟨by rw [A8_num o ho, he], hB⟩
theorem dig_above {c k : Nat} (hc : c < R256) (hk : 4 ≤ k) : dig c k = 0 := by
  unfold dig
  have h1 : (18446744073709551616 : Nat) ^ 4 ≤ 18446744073709551616 ^ k := Nat.pow_le_pow_right (by decide) hk
  have h2 : c < 18446744073709551616 ^ k := Nat.lt_of_lt_of_le (by rw [pow4]; exact hc) h1
  rw [Nat.div_eq_of_lt h2, Nat.zero_mod]
theorem vl_above {c : Nat} (hc : c < R256) : vl (dig c) 8 = c := by
  rw [vl_dig, Nat.mod_eq_of_lt (Nat.lt_trans hc (by decide))]
theorem vl_above2 {c : Nat} (hc : c < R512) : vl (dig c) 8 = c := by
  rw [vl_dig, pow8, Nat.mod_eq_of_lt hc]
theorem prod_room {a b c : Nat} (ha : a < R256) (hb : b < R256) (hc : c < R256) : a * b + c < R512 := by
  have h1 : a * b ≤ (R256 - 1) * (R256 - 1) := Nat.mul_le_mul (by omega) (by omega)
  have h2 : (R256 - 1) * (R256 - 1) + R256 ≤ R512 := by decide
  omega
theorem last_carry {p c h k R : Nat} (hR : R512 = R) (hp : p + c < R512) (e : p + c = h + R * k) : h = p + c := by
  rcases Nat.eq_zero_or_pos k with rfl | hk
  · omega
  · have : R * 1 ≤ R * k := Nat.mul_le_mul_left _ hk
    omega
theorem A8_val {h : Nat → Nat} {t : Nat} (hh : ∀ i, i < 8 → h i < 18446744073709551616) (e : vl h 8 = t) : A8 h = A8 (dig t) := by rw [A8_num h hh, e]
set_option maxRecDepth 100000 in
set_option maxHeartbeats 8000000 in
theorem muladd_any (a b c : Nat) (ha : a < R256) (hb : b < R256) (hc : c < R256) (w : World) : Calls Tryz.prog 47 #[.agg (B32 (bdig a)), .agg (B32 (bdig b)), .agg (B32 (bdig c))] w fun x w' => x = .returned (.agg (B32 (bdig ((a * b + c) % LL)))) ∧ Below w.heap.size w w' := by
  have hz := (zero_of_info zeroB32).1
  have hz8 := (zero_of_info zeroA8).1
  have hzN := (zero_of_info zeroLit).1
  have hroom := prod_room ha hb hc
  obtain ⟨p, Hp⟩ : ∃ p, Hid (a * b = p) := ⟨_, rfl⟩
  rw [Hp.out] at hroom ⊢
  have hpR : p < R512 := by omega
  obtain ⟨r, Hr⟩ : ∃ r, Hid ((p + c) % LL = r) := ⟨_, rfl⟩
  rw [Hr.out]
  go_enter Tryz.func47, Tryz.ntmps47
  go_upto_region 1 with fail
  have hK := ((((Kp.nil w).alloc (B32 (bdig a)) 22).alloc (B32 (bdig b)) 22).alloc (B32 (bdig c)) 22).alloc (B32 fun _ => 0) 22
  rw [World.size_alloc, World.size_alloc, World.size_alloc] at hK
  generalize (((w.alloc (.cells (B32 (bdig a)) 22)).alloc (.cells (B32 (bdig b)) 22)).alloc (.cells (B32 (bdig c)) 22)).alloc (.cells (B32 fun _ => 0) 22) = W at *
  obtain ⟨bA, H1⟩ : ∃ bA, Hid (w.heap.size = bA) := ⟨_, rfl⟩
  obtain ⟨bB, H2⟩ : ∃ bB, Hid (bA + 1 = bB) := ⟨_, rfl⟩
  obtain ⟨bC, H3⟩ : ∃ bC, Hid (bB + 1 = bC) := ⟨_, rfl⟩
  obtain ⟨bR, H4⟩ : ∃ bR, Hid (bC + 1 = bR) := ⟨_, rfl⟩
  have hleR : w.heap.size ≤ bR := by have := H1.out; have := H2.out; have := H3.out; have := H4.out; omega
  rw [H1.out, H2.out, H3.out, H4.out] at hK ⊢
  refine wp_region_lv 42 (fun _ => [(bR, B32 fun _ => 0, 22), (bC, B32 (bdig c), 22), (bB, B32 (bdig b), 22), (bA, B32 (bdig a), 22)]) [.v (.agg (B32 (bdig a))), .v (.agg (numA a)), .v (.agg (B32 (bdig b))), .v (.agg (numA b)), .v (.agg (A8 (dig p))), .mk (A8 fun _ => 0) (A8 (dig p)) 80 6, .o] hK (by kernel_rfl) (by kernel_rfl) (by kernel_rfl) (by rfl) ?_ ?_
  · exact .c (.ld bA (fun _ => .tail _ (.tail _ (.tail _ (.head _)))) Tryz.underlying22 rfl (B32_info _)) <| .c (.ca fun _ _ _ => of_any a ha _) <| .c (.ld bB (fun _ => .tail _ (.tail _ (.head _))) Tryz.underlying22 rfl (B32_info _)) <| .c (.ca fun _ _ _ => of_any b hb _) <| .c (.ca fun _ _ _ => times_at ha hb Hp.out _) <| .c (.al hz8) <| .c (.st 5 infoA8 (A8_one _)) .nil
  · intro vs wq hJ hf
    obtain ⟨g, hg⟩ := hf 5 _ _ rfl rfl
    obtain ⟨hgl, hgn, hog⟩ := hJ.got 5 hg
    have hK := hJ.1.cons hog
    simp only [putL, Lv.val, Nat.zero_add, Nat.reduceAdd, hg, Act.put, List.setIfInBounds_toArray, List.set_cons_succ, List.set_cons_zero]
    have gR : bR ≠ g := hgn (bR, B32 fun _ => 0, 22) (by simp)
    have lR := hK.h2.lt
    clear hJ hf hgn
    go_upto_region 2 with fail
    go_wp2_with (refine wpList_load_own (by rfl) 22 (.tmp 5) (by rfl) bC (by rfl) (B32 (bdig c)) _ hK.h3 Tryz.underlying22 (by rfl) (B32_info _) ?_)
    refine (of_any c hc _).mono ?_
    rintro e w1 ⟨rfl, b1⟩
    have hK1 := hK.below b1
    have lR := hK1.h2.lt
    have lg := hK1.h1.lt
    go_upto_region 3 with (refine wpList_store_new (by rfl) 54 (.tmp 8) (.tmp 18) (by rfl) _ (numA c) (by rfl) (by rfl) (numA_info _) (lit4_size _ _ _ _ _) (numA_one _) (by rfl) ?_)
    have hK2 := hK1.alloc (numA c) 54
    generalize w1.alloc (.cells (numA c) 54) = W2 at *
    obtain ⟨bN, H5⟩ : ∃ bN, Hid (w1.heap.size = bN) := ⟨_, rfl⟩
    rw [H5.out] at hK2 lR lg ⊢
    have hK3 : Kp [(g, A8 (dig p), 80), (bN, numA c, 54), (bR, B32 fun _ => 0, 22)] w W2 := hK2.sub (by simp)
    have hnot : ∀ q ∈ [(bN, numA c, 54), (bR, B32 fun _ => 0, 22)], q.1 ≠ g := by simp; omega
    clear hK hK1 hK2 lR lg
    go_wp2_with fail
    go_loopw [10, 9] (fun ii cc wr => ∃ (k y : Nat) (h : Nat → Nat), k ≤ 8 ∧ ii = .int .i64 (k : Int) ∧ cc = .int .u64 (y : Int) ∧ y ≤ 1 ∧ (∀ i, i < 8 → h i < 18446744073709551616) ∧ (∀ i, k ≤ i → h i = dig p i) ∧ Hid (vl (dig p) k + vl (dig c) k = vl h k + 18446744073709551616 ^ k * y) ∧ Kp [(g, A8 h, 80), (bN, numA c, 54), (bR, B32 fun _ => 0, 22)] w wr) (fun ii _ _ => 8 - (intOf ii).toNat)
    case atStart => exact ⟨0, 0, dig p, by omega, rfl, rfl, by omega, fun i _ => dig_lt p i, fun _ _ => rfl, by show _ = _; simp [vl], hK3⟩
    case round =>
      obtain ⟨k, y, h, hk, rfl, rfl, hy, hh, hrest, He, hKr⟩ := hrel
      have hk0 : (0 : Int) ≤ (k : Int) := by omega
      by_cases hlt : k < 8
      · have hki : (k : Int) < 8 := by omega
        obtain ⟨s, y', hrun, hs, hy', hes⟩ := add64_any (dig p k) (dig c k) y (dig_lt p k) (dig_lt c k) hy
        have Hst := show Hid _ from vl_add_step He.out hes
        have cT := hKr.h1.cell (A8_at h k hlt)
        have fT := hKr.h1.frozen k
        rw [hrest k (Nat.le_refl _)] at cT
        have hK4 := Kp.setCell (i := k) (v := .int .u64 (s : Int)) hKr hnot hgl
        rw [A8_set h k s hlt] at hK4
        have Hend : Hid ((∀ i, i < 8 → upd h k s i < 18446744073709551616) ∧ (∀ i, k + 1 ≤ i → upd h k s i = dig p i)) := by
          refine ⟨fun i hi => ?_, fun i hi => ?_⟩
          · by_cases e : i = k
            · rw [e, upd_same]; exact hs
            · rw [upd_other h k s i e]; exact hh i hi
          · rw [upd_other h k s i (by omega)]; exact hrest i (by omega)
        clear hes
        by_cases h4 : k < 4
        · have h4i : (k : Int) < 4 := by omega
          have cN := hKr.h2.cell (numA_at c k h4)
          generalize hXX : dig p k = x at cT hrun
          generalize hYY : dig c k = z at cN hrun
          clear hXX hYY
          go_wp2_with (simp only [hrun])
          exact ⟨⟨k + 1, y', upd h k s, by omega, by go_num, rfl, hy', Hend.out.1, Hend.out.2, Hst.out, hK4⟩, by simp [intOf]; omega⟩
        · have h4i : ¬ (k : Int) < 4 := by omega
          rw [dig_above hc (by omega), show ((0 : Nat) : Int) = 0 from rfl] at hrun
          generalize hXX : dig p k = x at cT hrun
          clear hXX
          go_wp2_with (simp only [hrun])
          exact ⟨⟨k + 1, y', upd h k s, by omega, by go_num, rfl, hy', Hend.out.1, Hend.out.2, Hst.out, hK4⟩, by simp [intOf]; omega⟩
      · have hki : ¬ (k : Int) < 8 := by omega
        have Hfin : Hid (A8 h = A8 (dig (p + c))) := by
          have e := He.out
          rw [show k = 8 by omega, vl_above hc, vl_above2 hpR, pow8] at e
          obtain ⟨R, HR⟩ : ∃ R, Hid (R512 = R) := ⟨_, rfl⟩
          rw [HR.out] at e
          exact A8_val hh (last_carry HR.out hroom e)
        rw [Hfin.out] at hKr
        obtain ⟨t, Ht⟩ : ∃ t, Hid (p + c = t) := ⟨_, rfl⟩
        rw [Ht.out] at hKr
        have htR : t < R512 := by rw [← Ht.out]; exact hroom
        have Htr : Hid (t % LL = r) := by show _ = _; rw [← Ht.out]; exact Hr.out
        go_upto_region 11 with fail
        go_wp2_with (refine wpList_load_own (by rfl) 80 (.tmp 7) (by rfl) g (by rfl) (A8 (dig t)) _ hKr.h1 Tryz.underlying80 (by rfl) infoA8 ?_)
        refine (modL_any t htR _).mono ?_
        rintro e w5 ⟨rfl, b5⟩
        rw [Htr.out]
        have hK5 := hKr.below b5
        go_wp2_with fail
        refine (bytesOf_any r _).mono ?_
        rintro e w6 ⟨rfl, b6⟩
        have hK6 := hK5.below b6
        go_wp2_with (refine wpList_store_own (by rfl) 22 (.tmp 6) (.tmp 41) (by rfl) bR 0 (B32 (bdig r)) (by rfl) (by rfl) hK6.h3 (B32_le _ _) (B32_info _) (B32_one _) (by rfl) ?_)
        refine bodyPost_ret (results_own Tryz.results47 _ _ bR (B32 (bdig r)) _ (by rfl) (own_setCells hK6.h3 (B32_sizes _ _)) Tryz.underlying22 rfl (B32_info _)) rfl ⟨rfl, ?_⟩
        exact Below.setCells _ _ _ _ hleR hK6.2
end Go.Proofs.YtgibllaifnnfkaaGreatDoor
