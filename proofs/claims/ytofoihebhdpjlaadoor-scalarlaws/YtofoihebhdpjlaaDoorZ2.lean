/- The number that 32 bytes are. -/
import Derived.Test.YtofoihebhdpjlaaDoorZ1
namespace Go.Proofs.YtofoihebhdpjlaaDoor
open Go.RowKit
theorem word_at (a k b o cap : Nat) (w : World) (hk : k < 4) (ho : 8 * k = o) {t : TypeId} (hO : Own w b (B32 (bdig a)) t) :
    Calls Tryd.prog 23 #[.slice (some ⟨b, o, none⟩) 8 cap] w fun r w' => r = .returned (.int .u64 (dig a k : Int)) ∧ Below w.heap.size w w' := by
  refine (word_any (fun i => bdig a (8 * k + i)) b o cap (fun i _ => bdig_lt _ _) w (fun i hi => ?_)).mono ?_
  · rw [← ho]; exact hO.cell (B32_at _ _ (by omega))
  · rintro x w' ⟨rfl, rfl⟩
    exact ⟨by rw [word_dig], Below.refl _ _⟩
def valRead (a bB : Nat) : Nat → Value
  | 0 => .slice (some ⟨bB, 0, none⟩) 8 32
  | 1 => .int .u64 (dig a 0 : Int)
  | 2 => .slice (some ⟨bB, 8, none⟩) 8 24
  | 3 => .int .u64 (dig a 1 : Int)
  | 4 => .slice (some ⟨bB, 16, none⟩) 8 16
  | 5 => .int .u64 (dig a 2 : Int)
  | 6 => .slice (some ⟨bB, 24, none⟩) 8 8
  | 7 => .int .u64 (dig a 3 : Int)
  | 8 => .agg (numA a)
  | _ => undef

set_option maxRecDepth 100000 in
set_option maxHeartbeats 8000000 in
theorem read_any (a : Nat) (w : World) :
    Calls Tryd.prog 26 #[.agg (B32 (bdig a))] w fun r w' => r = .returned (.agg (numA a)) ∧ Below w.heap.size w w' := by
  have hz := (zero_of_info zeroSN).1
  go_enter Tryd.func26, Tryd.ntmps26
  go_upto_region 1 with fail
  have hK := ((Kp.nil w).alloc (B32 (bdig a)) 22).alloc (numA 0) 50
  rw [World.size_alloc] at hK
  rw [← zero_num]
  generalize (w.alloc (.cells (B32 (bdig a)) 22)).alloc (.cells (numA 0) 50) = W at *
  obtain ⟨bB, H1⟩ : ∃ bB, Hid (w.heap.size = bB) := ⟨_, rfl⟩
  obtain ⟨bR, H2⟩ : ∃ bR, Hid (bB + 1 = bR) := ⟨_, rfl⟩
  have hleR : w.heap.size ≤ bR := by have := H1.out; have := H2.out; omega
  have nB : bB ≠ bR := by have := H2.out; omega
  rw [H1.out, H2.out] at hK ⊢
  refine wp_region_vals 12 (by kernel_rfl) (by kernel_rfl) (by rfl) (valRead a bB) (fun L => Kp [(bR, if L 9 then numA a else numA 0, 50), (bB, B32 (bdig a), 22)] w) hK.drew ?_ ?_
  · intro L ac wc i o hF hLi ho hd K hK
    rcases i with _ | _ | _ | _ | _ | _ | _ | _ | _ | _ | i
    · have ho' := ho
      obtain rfl := Option.some.inj ho
      have f1 : ac.tmps.getD 1 undef = .pointer (some ⟨bB, 0, none⟩) := slotv hF 0 hLi 1 (by kernel_rfl)
      refine step_do ho' (wanted_free rfl) ?_
      unfold Oper.wp
      go_simp
      exact hK _ _ (.inr rfl) hF.j
    · have ho' := ho
      obtain rfl := Option.some.inj ho
      have f3 : ac.tmps.getD 3 undef = .slice (some ⟨bB, 0, none⟩) 8 32 := valv hF hd 0 rfl rfl (by kernel_rfl)
      refine step_do ho' (wanted_free rfl) ?_
      unfold Oper.wp
      go_simp
      refine (word_at a 0 bB 0 32 _ (by decide) rfl hF.j.h2).mono ?_
      rintro e w' ⟨rfl, hB⟩
      exact hK _ _ (.inr rfl) (hF.j.below hB)
    · have ho' := ho
      obtain rfl := Option.some.inj ho
      have f1 : ac.tmps.getD 1 undef = .pointer (some ⟨bB, 0, none⟩) := slotv hF 2 hLi 1 (by kernel_rfl)
      refine step_do ho' (wanted_free rfl) ?_
      unfold Oper.wp
      go_simp
      exact hK _ _ (.inr rfl) hF.j
    · have ho' := ho
      obtain rfl := Option.some.inj ho
      have f5 : ac.tmps.getD 5 undef = .slice (some ⟨bB, 8, none⟩) 8 24 := valv hF hd 2 rfl rfl (by kernel_rfl)
      refine step_do ho' (wanted_free rfl) ?_
      unfold Oper.wp
      go_simp
      refine (word_at a 1 bB 8 24 _ (by decide) rfl hF.j.h2).mono ?_
      rintro e w' ⟨rfl, hB⟩
      exact hK _ _ (.inr rfl) (hF.j.below hB)
    · have ho' := ho
      obtain rfl := Option.some.inj ho
      have f1 : ac.tmps.getD 1 undef = .pointer (some ⟨bB, 0, none⟩) := slotv hF 4 hLi 1 (by kernel_rfl)
      refine step_do ho' (wanted_free rfl) ?_
      unfold Oper.wp
      go_simp
      exact hK _ _ (.inr rfl) hF.j
    · have ho' := ho
      obtain rfl := Option.some.inj ho
      have f7 : ac.tmps.getD 7 undef = .slice (some ⟨bB, 16, none⟩) 8 16 := valv hF hd 4 rfl rfl (by kernel_rfl)
      refine step_do ho' (wanted_free rfl) ?_
      unfold Oper.wp
      go_simp
      refine (word_at a 2 bB 16 16 _ (by decide) rfl hF.j.h2).mono ?_
      rintro e w' ⟨rfl, hB⟩
      exact hK _ _ (.inr rfl) (hF.j.below hB)
    · have ho' := ho
      obtain rfl := Option.some.inj ho
      have f1 : ac.tmps.getD 1 undef = .pointer (some ⟨bB, 0, none⟩) := slotv hF 6 hLi 1 (by kernel_rfl)
      refine step_do ho' (wanted_free rfl) ?_
      unfold Oper.wp
      go_simp
      exact hK _ _ (.inr rfl) hF.j
    · have ho' := ho
      obtain rfl := Option.some.inj ho
      have f9 : ac.tmps.getD 9 undef = .slice (some ⟨bB, 24, none⟩) 8 8 := valv hF hd 6 rfl rfl (by kernel_rfl)
      refine step_do ho' (wanted_free rfl) ?_
      unfold Oper.wp
      go_simp
      refine (word_at a 3 bB 24 8 _ (by decide) rfl hF.j.h2).mono ?_
      rintro e w' ⟨rfl, hB⟩
      exact hK _ _ (.inr rfl) (hF.j.below hB)
    · have ho' := ho
      obtain rfl := Option.some.inj ho
      have f4 : ac.tmps.getD 4 undef = .int .u64 (dig a 0 : Int) := valv hF hd 1 rfl rfl (by kernel_rfl)
      have f6 : ac.tmps.getD 6 undef = .int .u64 (dig a 1 : Int) := valv hF hd 3 rfl rfl (by kernel_rfl)
      have f8 : ac.tmps.getD 8 undef = .int .u64 (dig a 2 : Int) := valv hF hd 5 rfl rfl (by kernel_rfl)
      have f10 : ac.tmps.getD 10 undef = .int .u64 (dig a 3 : Int) := valv hF hd 7 rfl rfl (by kernel_rfl)
      refine step_do ho' (wanted_free rfl) ?_
      have g4 := getq f4
      have g6 := getq f6
      have g8 := getq f8
      have g10 := getq f10
      unfold Oper.wp
      go_simp
      exact hK _ _ (.inr rfl) hF.j
    · have ho' := ho
      obtain rfl := Option.some.inj ho
      have f2 : ac.tmps.getD 2 undef = .pointer (some ⟨bR, 0, none⟩) := slotv hF 9 hLi 2 (by kernel_rfl)
      have f11 : ac.tmps.getD 11 undef = .agg (numA a) := valv hF hd 8 rfl rfl (by kernel_rfl)
      refine step_do ho' (wanted_free rfl) ?_
      have hj := hF.j
      rw [hLi] at hj
      refine wp_store_own 50 (.tmp 2) (.tmp 11) rfl bR (numA a) f2 f11 hj.h1 rfl infoSN (numA_one _) rfl ?_
      exact hK undef _ (.inl rfl) (Kp.set hj (by simp; omega) hleR rfl)
    · cases ho
  · intro L wq hL hKq
    rw [hL 9 (by decide)] at hKq
    simp only [putAll, valRead, Act.put, List.setIfInBounds_toArray, List.set_cons_succ, List.set_cons_zero]
    go_wp2_with fail
    exact bodyPost_ret (results_own Tryd.results26 _ _ bR (numA a) _ (by rfl) hKq.h1 Tryd.underlying50 rfl infoSN) rfl ⟨rfl, hKq.2⟩
end Go.Proofs.YtofoihebhdpjlaaDoor
