/- The walk of what is left by p. -/
import Derived.Test.YtaefjbklioljnaaDoorE4
namespace Go.Proofs.YtaefjbklioljnaaDoor
open Go.RowKit
/-- The values of the test's operations, and of the taking away's. -/
def valT (x : Nat) : Nat → Value
  | 0 => .agg (numA x)
  | 1 => .agg (numA pp)
  | 2 => .bool (decide (x < pp))
  | _ => .bool (!decide (x < pp))
def valS (x y : Nat) : Nat → Value
  | 0 => .agg (numA x)
  | 1 => .agg (numA pp)
  | 4 => .agg (numA y)
  | 5 => .int .u64 0
  | _ => .tuple #[.agg (numA y), .int .u64 0]
set_option maxRecDepth 100000 in
set_option maxHeartbeats 4000000 in
theorem mod_any (a : Nat) (ha : a < R256) (w : World) : Calls Tryd.prog 14 #[.agg (numA a)] w fun e w' => e = .returned (.agg (numA (a % pp))) ∧ Below w.heap.size w w' := by
  have hz := (zero_of_info zeroNum).1
  go_enter Tryd.func14, Tryd.ntmps14
  go_wp2_with fail
  have hK0 := ((Kp.nil w).alloc (numA a) 25).alloc (numA 0) 25
  rw [World.size_alloc] at hK0
  rw [← zero_num]
  generalize (w.alloc (.cells (numA a) 25)).alloc (.cells (numA 0) 25) = W at *
  obtain ⟨bX, HX⟩ : ∃ bX, Hid (w.heap.size = bX) := ⟨_, rfl⟩
  obtain ⟨bR, HR⟩ : ∃ bR, Hid (bX + 1 = bR) := ⟨_, rfl⟩
  have hne : bX ≠ bR := by have := HR.out; omega
  have hle : w.heap.size ≤ bX := by rw [HX.out]; omega
  have hle' : w.heap.size ≤ bR := by have := HR.out; omega
  rw [HX.out, HR.out] at hK0 ⊢
  go_loopw [3] (fun i wr => ∃ (k x : Nat), k ≤ 3 ∧ i = .int .i64 (k : Int) ∧ x < R256 ∧ Hid (x % pp = a % pp ∧ (x < pp ∨ x + k * pp ≤ a)) ∧ Kp [(bX, numA x, 25), (bR, numA 0, 25)] w wr) (fun i _ => 3 - (intOf i).toNat)
  case atStart => exact ⟨0, a, by omega, rfl, ha, ⟨rfl, .inr (by omega)⟩, hK0.sub (by simp)⟩
  case round =>
    obtain ⟨k, x, hk, rfl, hx, Hm, hKr⟩ := hrel
    have hk0 : (0 : Int) ≤ (k : Int) := by omega
    by_cases hlt : k < 3
    · have hki : (k : Int) < 3 := by omega
      go_upto_region 4 with fail
      refine wp_region_vals 19 (by kernel_rfl) (by kernel_rfl) (by rfl) (valT x) (fun _ => Kp [(bX, numA x, 25), (bR, numA 0, 25)] w) hKr.drew ?_ ?_
      · intro L ac wc i o hF hLi ho hd K hK
        rcases i with _ | _ | _ | _ | i
        · have ho' := ho
          obtain rfl := Option.some.inj ho
          have f1 : ac.tmps.getD 1 undef = .pointer (some ⟨bX, 0, none⟩) := slotv hF 0 hLi 1 (by kernel_rfl)
          refine step_do ho' (wanted_free rfl) ?_
          exact wp_load_own 25 (.tmp 1) rfl bX f1 (numA x) _ 25 (hF.j.at bX (numA x) 25 (by simp)) Tryd.underlying25 rfl (numA_info x) (hK _ _ (.inr rfl) hF.j)
        · have ho' := ho
          obtain rfl := Option.some.inj ho
          refine step_do ho' (wanted_free rfl) ?_
          unfold Oper.wp
          go_simp
          refine (P_any _).mono ?_
          rintro e w' ⟨rfl, hB⟩
          exact hK _ _ (.inr rfl) (hF.j.below hB)
        · have ho' := ho
          obtain rfl := Option.some.inj ho
          have f8 : ac.tmps.getD 8 undef = .agg (numA x) := valv hF hd 0 rfl rfl (by kernel_rfl)
          have f9 : ac.tmps.getD 9 undef = .agg (numA pp) := valv hF hd 1 rfl rfl (by kernel_rfl)
          refine step_do ho' (wanted_free rfl) ?_
          unfold Oper.wp
          go_simp
          refine (less_any x pp hx (by decide) _).mono ?_
          rintro e w' ⟨rfl, hB⟩
          exact hK _ _ (.inr rfl) (hF.j.below hB)
        · have ho' := ho
          obtain rfl := Option.some.inj ho
          have f10 : ac.tmps.getD 10 undef = .bool (decide (x < pp)) := valv hF hd 2 rfl rfl (by kernel_rfl)
          refine step_do ho' (wanted_free rfl) ?_
          unfold Oper.wp
          go_simp
          exact hK _ _ (.inr rfl) hF.j
        · cases ho
      · intro L wq hL hKq
        simp only [putAll, valT]
        by_cases hxp : x < pp
        · have hd : decide (x < pp) = true := decide_eq_true hxp
          have Hxp := show Hid _ from hxp
          rw [hd]
          clear hxp hd
          go_wp2_with fail
          exact ⟨⟨k + 1, x, by omega, by go_num, hx, ⟨Hm.out.1, .inl Hxp.out⟩, hKq⟩, by simp [intOf]; omega⟩
        · have hd : decide (x < pp) = false := decide_eq_false hxp
          obtain ⟨y, Hy⟩ : ∃ y, Hid (x = y + pp) := ⟨x - pp, by show _ = _; omega⟩
          rw [hd]
          clear hxp hd
          go_upto_region 5 with fail
          refine wp_region_vals 19 (by kernel_rfl) (by kernel_rfl) (by rfl) (valS x y) (fun L => Kp [(bX, if L 6 = true then numA y else numA x, 25), (bR, numA 0, 25)] w) hKq.drew ?_ ?_
          · intro L ac wc i o hF hLi ho hd K hK
            rcases i with _ | _ | _ | _ | _ | _ | _ | i
            · have ho' := ho
              obtain rfl := Option.some.inj ho
              have f1 : ac.tmps.getD 1 undef = .pointer (some ⟨bX, 0, none⟩) := slotv hF 0 hLi 1 (by kernel_rfl)
              refine step_do ho' (wanted_free rfl) ?_
              have hn6 := notyet hF 0 hLi 6 rfl (by kernel_rfl)
              have hj := hF.j
              rw [hn6] at hj
              exact wp_load_own 25 (.tmp 1) rfl bX f1 (numA x) _ 25 (hj.at bX (numA x) 25 (by simp)) Tryd.underlying25 rfl (numA_info x) (hK _ _ (.inr rfl) hF.j)
            · have ho' := ho
              obtain rfl := Option.some.inj ho
              refine step_do ho' (wanted_free rfl) ?_
              unfold Oper.wp
              go_simp
              refine (P_any _).mono ?_
              rintro e w' ⟨rfl, hB⟩
              exact hK _ _ (.inr rfl) (hF.j.below hB)
            · have ho' := ho
              obtain rfl := Option.some.inj ho
              have f13 : ac.tmps.getD 13 undef = .agg (numA x) := valv hF hd 0 rfl rfl (by kernel_rfl)
              have f14 : ac.tmps.getD 14 undef = .agg (numA pp) := valv hF hd 1 rfl rfl (by kernel_rfl)
              refine step_do ho' (wanted_free rfl) ?_
              unfold Oper.wp
              go_simp
              refine (sub_big hx (by decide) Hy.out _).mono ?_
              rintro e w' ⟨rfl, hB⟩
              exact hK _ _ (.inr rfl) (hF.j.below hB)
            · have ho' := ho
              obtain rfl := Option.some.inj ho
              have f15 : ac.tmps.getD 15 undef = .tuple #[.agg (numA y), .int .u64 0] := valv hF hd 2 rfl rfl (by kernel_rfl)
              refine step_do ho' (wanted_free rfl) ?_
              unfold Oper.wp
              go_simp
              exact hK _ _ (.inr rfl) hF.j
            · have ho' := ho
              obtain rfl := Option.some.inj ho
              have f12 : ac.tmps.getD 12 undef = .tuple #[.agg (numA y), .int .u64 0] := valv hF hd 3 rfl rfl (by kernel_rfl)
              refine step_do ho' (wanted_free rfl) ?_
              unfold Oper.wp
              go_simp
              exact hK _ _ (.inr rfl) hF.j
            · have ho' := ho
              obtain rfl := Option.some.inj ho
              have f12 : ac.tmps.getD 12 undef = .tuple #[.agg (numA y), .int .u64 0] := valv hF hd 3 rfl rfl (by kernel_rfl)
              refine step_do ho' (wanted_free rfl) ?_
              unfold Oper.wp
              go_simp
              exact hK _ _ (.inr rfl) hF.j
            · have ho' := ho
              obtain rfl := Option.some.inj ho
              have f1 : ac.tmps.getD 1 undef = .pointer (some ⟨bX, 0, none⟩) := slotv hF 6 hLi 1 (by kernel_rfl)
              have f16 : ac.tmps.getD 16 undef = .agg (numA y) := valv hF hd 4 rfl rfl (by kernel_rfl)
              refine step_do ho' (wanted_free rfl) ?_
              have hj := hF.j
              rw [hLi] at hj
              have hj := hj
              refine wp_store_own 25 (.tmp 1) (.tmp 16) rfl bX (numA y) f1 f16 (hj.at bX (numA x) 25 (by simp)) rfl (numA_info y) (numA_one y) rfl ?_
              exact hK undef _ (.inl rfl) (Kp.set hj (by simp; omega) (by omega) rfl)
            · cases ho
          · intro L wz hL hKz
            have h6 := hL 6 (by decide)
            rw [h6] at hKz
            simp only [putAll, valS]
            go_wp2_with fail
            have h1 := Hm.out
            have h2 := Hy.out
            exact ⟨⟨k + 1, y, by omega, by go_num, by omega, ⟨by rw [← h1.1, h2, Nat.add_mod_right], .inr (by rw [Nat.add_mul]; omega)⟩, hKz⟩, by simp [intOf]; omega⟩
    · have hki : ¬ (k : Int) < 3 := by omega
      have Hx : Hid (x = a % pp) := by
        show _ = _
        have h1 := Hm.out
        have h2 := R256_lt
        have hk3 : k = 3 := by omega
        rw [hk3] at h1
        rw [← h1.1, Nat.mod_eq_of_lt]
        rcases h1.2 with h | h
        · exact h
        · omega
      go_upto_region 6 with fail
      go_wp2_with (first
        | refine wpList_load_own (by rfl) 25 (.tmp 1) (by rfl) bX (by rfl) (numA x) _ (hKr.at bX (numA x) 25 (by simp)) Tryd.underlying25 (by rfl) (numA_info x) ?_
        | refine wpList_store_own (by rfl) 25 (.tmp 2) (.tmp 18) (by rfl) bR 0 (numA x) (by rfl) (by rfl) (hKr.at bR (numA 0) 25 (by simp)) (Nat.le_refl _) (numA_info x) (numA_one x) (by rfl) ?_)
      refine bodyPost_ret (results_own Tryd.results14 _ _ bR (numA x) _ (by rfl) (own_setCells (hKr.at bR (numA 0) 25 (by simp)) rfl) Tryd.underlying25 rfl (numA_info x)) rfl ⟨by rw [Hx.out], ?_⟩
      exact Below.setCells _ _ _ _ hle' hKr.2
end Go.Proofs.YtaefjbklioljnaaDoor
