/- The walk of the law FieldInverse, over the program's functions by their contracts. -/
import Derived.Test.YtaefjbklioljnaaDoorE17
import Derived.Test.YtaefjbklioljnaaDoorF11
namespace Go.Proofs.YtaefjbklioljnaaDoor
open Go.RowKit
theorem pinv_at {a c : Nat} (ha : a < R256) (hc : finv a = c) (w : World) : Calls Tryd.prog 23 #[.agg (numA a)] w fun x w' => x = .returned (.agg (numA c)) ∧ Below w.heap.size w w' := by
  rw [← hc]; exact inv_any a ha w
def valI (a m x : Nat) : Nat → Value
  | 0 => .agg (B32 (bdig x))
  | 1 => .agg (B32 (bdig a))
  | 2 => .agg (numA a)
  | 3 => .agg (numA m)
  | 4 => .agg (numA x)
  | 5 => .agg (B32 (bdig x))
  | 8 => .agg (B32 (bdig x))
  | 9 => .agg (B32 (bdig m))
  | 10 => .agg (B32 (bdig a))
  | 11 => .agg (B32 (bdig m))
  | _ => .bool false
def valI5 (x : Nat) : Nat → Value
  | 0 => .agg (B32 (bdig x))
  | 1 => .agg (B32 (bdig 0))
  | _ => .bool true

set_option maxRecDepth 100000 in
set_option maxHeartbeats 16000000 in
theorem inverse_any {T : World → Prop} (F : Fld T) (hI : FInv T) (a : Nat) (ha : a < R256) (w : World) (hT : T w) : Calls Tryd.prog 4 #[.agg (B32 (bdig a))] w fun x w' => x = .returned (.bool true) ∧ Below w.heap.size w w' := by
  have hz := (zero_of_info zeroB32).1
  obtain ⟨m, Hm⟩ : ∃ x, Hid (a % pp = x) := ⟨_, rfl⟩
  have hm : m < R256 := by rw [← Hm.out]; exact lt_of_mod
  obtain ⟨x, Hx⟩ : ∃ x, Hid (finv a = x) := ⟨_, rfl⟩
  have hx : x < R256 := by rw [← Hx.out]; exact Nat.lt_trans (finv_lt a) (by decide)
  have Hx2 : Hid (finv m = x) := by show _ = _; rw [← Hm.out, finv_mod]; exact Hx.out
  have Hxx : Hid (finv x = m) := by show _ = _; rw [← Hx.out, finv_finv]; exact Hm.out
  have same_x := B32_same x hx
  have same_m := B32_same m hm
  go_enter Tryd.func4, Tryd.ntmps4
  go_upto_region 1 with fail
  have hK0 := (Kp.nil w).alloc (B32 (bdig a)) 22
  generalize w.alloc (.cells (B32 (bdig a)) 22) = W at *
  obtain ⟨bA, HA⟩ : ∃ bA, Hid (w.heap.size = bA) := ⟨_, rfl⟩
  rw [HA.out] at hK0 ⊢
  go_wp2_with (refine wpList_load_own (by rfl) 22 (.tmp 1) (by rfl) bA (by rfl) (B32 (bdig a)) _ (hK0.at bA (B32 (bdig a)) 22 (by simp)) Tryd.underlying22 (by rfl) (B32_info _) ?_)
  refine (finvA hI ha Hx.out W (F.keep _ _ hT hK0.2)).mono ?_
  rintro e w1 ⟨rfl, hB1⟩
  have hK2 := (hK0.below hB1).alloc (B32 (bdig x)) 22
  go_upto_region 2 with (refine wpList_store_new (by rfl) 22 (.tmp 3) (.tmp 5) (by rfl) _ (B32 (bdig x)) (by rfl) (by rfl) (B32_info _) (B32_sizes _ _) (B32_one _) (by rfl) ?_)
  generalize w1.alloc (.cells (B32 (bdig x)) 22) = W1 at *
  generalize w1.heap.size = bX at *
  clear hK0
  refine wp_region_vals 38 (by kernel_rfl) (by kernel_rfl) (by rfl) (valI a m x) (fun _ => Kp [(bX, B32 (bdig x), 22), (bA, B32 (bdig a), 22)] w) hK2.drew ?_ ?_
  · intro L ac wc i o hF hLi ho hd K hK
    rcases i with _ | _ | _ | _ | _ | _ | _ | _ | _ | _ | _ | _ | _ | _ | i
    · have ho' := ho
      obtain rfl := Option.some.inj ho
      have f3 : ac.tmps.getD 3 undef = .pointer (some ⟨bX, 0, none⟩) := slotv hF 0 hLi 3 (by kernel_rfl)
      refine step_do ho' (wanted_free rfl) ?_
      exact wp_load_own 22 (.tmp 3) rfl bX f3 (B32 (bdig x)) _ 22 (hF.j.at bX (B32 (bdig x)) 22 (by simp)) Tryd.underlying22 rfl (B32_info _) (hK _ _ (.inr rfl) hF.j)
    · have ho' := ho
      obtain rfl := Option.some.inj ho
      have f1 : ac.tmps.getD 1 undef = .pointer (some ⟨bA, 0, none⟩) := slotv hF 1 hLi 1 (by kernel_rfl)
      refine step_do ho' (wanted_free rfl) ?_
      exact wp_load_own 22 (.tmp 1) rfl bA f1 (B32 (bdig a)) _ 22 (hF.j.at bA (B32 (bdig a)) 22 (by simp)) Tryd.underlying22 rfl (B32_info _) (hK _ _ (.inr rfl) hF.j)
    · have ho' := ho
      obtain rfl := Option.some.inj ho
      have f7 : ac.tmps.getD 7 undef = .agg (B32 (bdig a)) := valv hF hd 1 rfl rfl (by kernel_rfl)
      refine step_do ho' (wanted_free rfl) ?_
      unfold Oper.wp
      go_simp
      refine (of_any a ha _).mono ?_
      rintro e w' ⟨rfl, hB⟩
      exact hK _ _ (.inr rfl) (hF.j.below hB)
    · have ho' := ho
      obtain rfl := Option.some.inj ho
      have f8 : ac.tmps.getD 8 undef = .agg (numA a) := valv hF hd 2 rfl rfl (by kernel_rfl)
      refine step_do ho' (wanted_free rfl) ?_
      unfold Oper.wp
      go_simp
      refine (pmod_at ha Hm.out _).mono ?_
      rintro e w' ⟨rfl, hB⟩
      exact hK _ _ (.inr rfl) (hF.j.below hB)
    · have ho' := ho
      obtain rfl := Option.some.inj ho
      have f9 : ac.tmps.getD 9 undef = .agg (numA m) := valv hF hd 3 rfl rfl (by kernel_rfl)
      refine step_do ho' (wanted_free rfl) ?_
      unfold Oper.wp
      go_simp
      refine (pinv_at hm Hx2.out _).mono ?_
      rintro e w' ⟨rfl, hB⟩
      exact hK _ _ (.inr rfl) (hF.j.below hB)
    · have ho' := ho
      obtain rfl := Option.some.inj ho
      have f10 : ac.tmps.getD 10 undef = .agg (numA x) := valv hF hd 4 rfl rfl (by kernel_rfl)
      refine step_do ho' (wanted_free rfl) ?_
      unfold Oper.wp
      go_simp
      refine (bytesOf_any x _).mono ?_
      rintro e w' ⟨rfl, hB⟩
      exact hK _ _ (.inr rfl) (hF.j.below hB)
    · have ho' := ho
      obtain rfl := Option.some.inj ho
      have f6 : ac.tmps.getD 6 undef = .agg (B32 (bdig x)) := valv hF hd 0 rfl rfl (by kernel_rfl)
      have f11 : ac.tmps.getD 11 undef = .agg (B32 (bdig x)) := valv hF hd 5 rfl rfl (by kernel_rfl)
      refine step_do ho' (wanted_free rfl) ?_
      unfold Oper.wp
      go_simp
      exact hK _ _ (.inr rfl) hF.j
    · have ho' := ho
      obtain rfl := Option.some.inj ho
      have f12 : ac.tmps.getD 12 undef = .bool false := valv hF hd 6 rfl rfl (by kernel_rfl)
      refine step_do ho' (wanted_free rfl) ?_
      unfold Oper.wp
      go_simp
      exact hK _ _ (.inr rfl) hF.j
    · have ho' := ho
      obtain rfl := Option.some.inj ho
      have f3 : ac.tmps.getD 3 undef = .pointer (some ⟨bX, 0, none⟩) := slotv hF 8 hLi 3 (by kernel_rfl)
      have fg : ac.tmps.getD 13 undef = .bool false := valv hF hd 7 rfl rfl (by kernel_rfl)
      refine step_do ho' (wanted_so (g := 7) rfl rfl rfl fg) ?_
      exact wp_load_own 22 (.tmp 3) rfl bX f3 (B32 (bdig x)) _ 22 (hF.j.at bX (B32 (bdig x)) 22 (by simp)) Tryd.underlying22 rfl (B32_info _) (hK _ _ (.inr rfl) hF.j)
    · have ho' := ho
      obtain rfl := Option.some.inj ho
      have f14 : ac.tmps.getD 14 undef = .agg (B32 (bdig x)) := valv hF hd 8 rfl rfl (by kernel_rfl)
      have fg : ac.tmps.getD 13 undef = .bool false := valv hF hd 7 rfl rfl (by kernel_rfl)
      refine step_do ho' (wanted_so (g := 7) rfl rfl rfl fg) ?_
      unfold Oper.wp
      go_simp
      refine (finvA hI hx Hxx.out _ (F.keep _ _ hT hF.j.2)).mono ?_
      rintro e w' ⟨rfl, hB⟩
      exact hK _ _ (.inr rfl) (hF.j.below hB)
    · have ho' := ho
      obtain rfl := Option.some.inj ho
      have f1 : ac.tmps.getD 1 undef = .pointer (some ⟨bA, 0, none⟩) := slotv hF 10 hLi 1 (by kernel_rfl)
      have fg : ac.tmps.getD 13 undef = .bool false := valv hF hd 7 rfl rfl (by kernel_rfl)
      refine step_do ho' (wanted_so (g := 7) rfl rfl rfl fg) ?_
      exact wp_load_own 22 (.tmp 1) rfl bA f1 (B32 (bdig a)) _ 22 (hF.j.at bA (B32 (bdig a)) 22 (by simp)) Tryd.underlying22 rfl (B32_info _) (hK _ _ (.inr rfl) hF.j)
    · have ho' := ho
      obtain rfl := Option.some.inj ho
      have f16 : ac.tmps.getD 16 undef = .agg (B32 (bdig a)) := valv hF hd 10 rfl rfl (by kernel_rfl)
      have fg : ac.tmps.getD 13 undef = .bool false := valv hF hd 7 rfl rfl (by kernel_rfl)
      refine step_do ho' (wanted_so (g := 7) rfl rfl rfl fg) ?_
      unfold Oper.wp
      go_simp
      refine (F.modA ha Hm.out _ (F.keep _ _ hT hF.j.2)).mono ?_
      rintro e w' ⟨rfl, hB⟩
      exact hK _ _ (.inr rfl) (hF.j.below hB)
    · have ho' := ho
      obtain rfl := Option.some.inj ho
      have f15 : ac.tmps.getD 15 undef = .agg (B32 (bdig m)) := valv hF hd 9 rfl rfl (by kernel_rfl)
      have f17 : ac.tmps.getD 17 undef = .agg (B32 (bdig m)) := valv hF hd 11 rfl rfl (by kernel_rfl)
      have fg : ac.tmps.getD 13 undef = .bool false := valv hF hd 7 rfl rfl (by kernel_rfl)
      refine step_do ho' (wanted_so (g := 7) rfl rfl rfl fg) ?_
      unfold Oper.wp
      go_simp
      exact hK _ _ (.inr rfl) hF.j
    · have ho' := ho
      obtain rfl := Option.some.inj ho
      have f13 : ac.tmps.getD 13 undef = .bool false := valv hF hd 7 rfl rfl (by kernel_rfl)
      have f18 : ac.tmps.getD 18 undef = .bool false := valv hF hd 12 rfl rfl (by kernel_rfl)
      refine step_do ho' (wanted_free rfl) ?_
      unfold Oper.wp
      go_simp
      exact hK _ _ (.inr rfl) hF.j
    · cases ho
  · intro L wq hL hKq
    simp only [putAll, valI, Act.put, List.setIfInBounds_toArray, List.set_cons_succ, List.set_cons_zero]
    clear hL hK2
    go_upto_region 4 with fail
    go_wp2_with (refine wpList_load_own (by rfl) 22 (.tmp 1) (by rfl) bA (by rfl) (B32 (bdig a)) _ (hKq.at bA (B32 (bdig a)) 22 (by simp)) Tryd.underlying22 (by rfl) (B32_info _) ?_)
    refine (F.modA ha Hm.out wq (F.keep _ _ hT hKq.2)).mono ?_
    rintro e w3 ⟨rfl, hB3⟩
    have hK3 := hKq.below hB3
    go_wp2_with fail
    refine (num_any 0 (by decide) w3).mono ?_
    rintro e w4 ⟨rfl, hB4⟩
    have hK4 := hK3.below hB4
    have Hcmp := B32_eq m 0 hm (by decide)
    by_cases hm0 : m = 0
    · have hc : ∀ w, (Op.equalIn 10000 22 (.agg (B32 (bdig m))) (.agg (B32 (bdig 0)))).run Tryd.prog w = .ok true w := fun w => by rw [Hcmp w, decide_eq_true hm0]
      have hx0 : x = 0 := by rw [← Hx.out]; exact finv_zero (by rw [Hm.out]; exact hm0)
      have hc2 : ∀ w, (Op.equalIn 10000 22 (.agg (B32 (bdig x))) (.agg (B32 (bdig 0)))).run Tryd.prog w = .ok true w := fun w => by rw [B32_eq x 0 hx (by decide) w, decide_eq_true hx0]
      clear hm0 hx0 Hcmp hK3 hKq
      go_upto_region 5 with fail
      refine wp_region_stable 38 (by kernel_rfl) (by kernel_rfl) (by rfl) (fun i v _ => v = valI5 x i) (fun _ _ _ _ _ h => h) ?_ ?_
      · intro L ac wc i o hF ho hd
        rcases i with _ | _ | _ | _ | _ | _ | _ | i
        · obtain rfl := Option.some.inj ho
          have f3 : ac.tmps.getD 3 undef = .pointer (some ⟨bX, 0, none⟩) := slot hF 3 (by kernel_rfl)
          refine ⟨wanted_free rfl, fun K hK => ?_⟩
          exact wp_load_own 22 (.tmp 3) rfl bX f3 (B32 (bdig x)) _ 22 ((hK4.below hF.cls).at bX (B32 (bdig x)) 22 (by simp)) Tryd.underlying22 rfl (B32_info _) (hK _ _ (Below.refl _ _) rfl)
        · obtain rfl := Option.some.inj ho
          refine ⟨wanted_free rfl, fun K hK => ?_⟩
          unfold Oper.wp
          go_simp
          refine (num_any 0 (by decide) _).mono ?_
          rintro e w' ⟨rfl, hB⟩
          exact hK _ _ hB rfl
        · obtain rfl := Option.some.inj ho
          have f24 : ac.tmps.getD 24 undef = .agg (B32 (bdig x)) := hF.fact 0 _ _ rfl rfl (dep hd 0 (by kernel_rfl))
          have f25 : ac.tmps.getD 25 undef = .agg (B32 (bdig 0)) := hF.fact 1 _ _ rfl rfl (dep hd 1 (by kernel_rfl))
          refine ⟨wanted_free rfl, fun K hK => ?_⟩
          unfold Oper.wp
          go_simp
          exact hK _ _ (Below.refl _ _) rfl
        · obtain rfl := Option.some.inj ho
          have f26 : ac.tmps.getD 26 undef = .bool true := hF.fact 2 _ _ rfl rfl (dep hd 2 (by kernel_rfl))
          refine ⟨wanted_free rfl, fun K hK => ?_⟩
          unfold Oper.wp
          go_simp
          exact hK _ _ (Below.refl _ _) rfl
        · obtain rfl := Option.some.inj ho
          have fg : ac.tmps.getD 27 undef = .bool true := hF.fact 3 _ _ rfl rfl (dep hd 3 (by kernel_rfl))
          refine ⟨wanted_true (g := 3) rfl rfl rfl fg, fun K hK => ?_⟩
          unfold Oper.wp
          go_simp
          refine (wakes_any F _ (F.keep _ _ (F.keep _ _ hT hK4.2) hF.cls)).mono ?_
          rintro e w' ⟨rfl, hB⟩
          exact hK _ _ hB rfl
        · obtain rfl := Option.some.inj ho
          have f27 : ac.tmps.getD 27 undef = .bool true := hF.fact 3 _ _ rfl rfl (dep hd 3 (by kernel_rfl))
          have f28 : ac.tmps.getD 28 undef = .bool true := hF.fact 4 _ _ rfl rfl (dep hd 4 (by kernel_rfl))
          refine ⟨wanted_free rfl, fun K hK => ?_⟩
          unfold Oper.wp
          go_simp
          exact hK _ _ (Below.refl _ _) rfl
        · obtain rfl := Option.some.inj ho
          have f29 : ac.tmps.getD 29 undef = .bool true := hF.fact 5 _ _ rfl rfl (dep hd 5 (by kernel_rfl))
          refine ⟨wanted_free rfl, fun K hK => ?_⟩
          unfold Oper.wp
          go_simp
          exact hK _ _ (Below.refl _ _) rfl
        · cases ho
      · intro L ac wc hL hF
        have f2 : ac.tmps.getD 2 undef = .bool true := hF.fact 6 _ 2 rfl rfl (hL 6 (by decide))
        have hb' := (hK4.below hF.cls).2
        go_wp2
        exact bodyPost_ret (results_tmp rfl _ _ _) hF.defers ⟨by rw [f2], hb'⟩
    · have hc : ∀ w, (Op.equalIn 10000 22 (.agg (B32 (bdig m))) (.agg (B32 (bdig 0)))).run Tryd.prog w = .ok false w := fun w => by rw [Hcmp w, decide_eq_false hm0]
      have H1 : Hid (a * x % pp = 1) := by show _ = _; rw [← Hx.out]; exact finv_mul (by rw [Hm.out]; exact hm0)
      have same1 := B32_same 1 (by decide)
      clear hm0 Hcmp hK3 hKq
      go_upto_region 6 with fail
      go_wp2_with (first
        | refine wpList_load_own (by rfl) 22 (.tmp 1) (by rfl) bA (by rfl) (B32 (bdig a)) _ (hK4.at bA (B32 (bdig a)) 22 (by simp)) Tryd.underlying22 (by rfl) (B32_info _) ?_
        | refine wpList_load_own (by rfl) 22 (.tmp 3) (by rfl) bX (by rfl) (B32 (bdig x)) _ (hK4.at bX (B32 (bdig x)) 22 (by simp)) Tryd.underlying22 (by rfl) (B32_info _) ?_)
      refine (F.mulA ha hx H1.out _ (F.keep _ _ hT hK4.2)).mono ?_
      rintro e w5 ⟨rfl, hB5⟩
      have hK5 := hK4.below hB5
      go_wp2_with fail
      refine (num_any 1 (by decide) w5).mono ?_
      rintro e w6 ⟨rfl, hB6⟩
      have hK6 := hK5.below hB6
      go_wp2_with fail
      refine (wakes_any F _ (F.keep _ _ hT hK6.2)).mono ?_
      rintro e w7 ⟨rfl, hB7⟩
      go_wp2
      go_ret
      exact ⟨rfl, (hK6.below hB7).2⟩
end Go.Proofs.YtaefjbklioljnaaDoor
