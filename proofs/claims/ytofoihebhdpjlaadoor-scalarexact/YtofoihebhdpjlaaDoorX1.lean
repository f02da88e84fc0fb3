/- The walk of the law ScalarExact, over the program's functions by their contracts. -/
import Derived.Test.YtofoihebhdpjlaaDoorS3
namespace Go.Proofs.YtofoihebhdpjlaaDoor
open Go.RowKit
def valX (a b c z m y s bA bW : Nat) (d : Bool) : Nat → Value
  | 0 => .agg (B32 (bdig a))
  | 1 => .bool d
  | 2 => .agg (B32 (bdig a))
  | 3 => .bool d
  | 6 => .agg (B32 (bdig a))
  | 7 => .agg (B32 (bdig m))
  | 8 => .slice (some ⟨bA, 0, none⟩) 32 32
  | 9 => .agg (B32 (bdig m))
  | 13 => .agg (B64 (bdig z))
  | 14 => .agg (B32 (bdig y))
  | 15 => .slice (some ⟨bW, 0, none⟩) 64 64
  | 16 => .agg (B32 (bdig y))
  | 20 => .agg (B32 (bdig a))
  | 21 => .agg (B32 (bdig b))
  | 22 => .agg (B32 (bdig c))
  | 23 => .agg (B32 (bdig s))
  | 24 => .agg (B32 (bdig a))
  | 25 => .agg (B32 (bdig b))
  | 26 => .agg (B32 (bdig c))
  | 27 => .agg (B32 (bdig s))
  | _ => .bool true

set_option maxRecDepth 100000 in
set_option maxHeartbeats 16000000 in
theorem sexact_any {T : World → Prop} (F : Scl T) (a b c z : Nat) (ha : a < R256) (hb : b < R256) (hc : c < R256) (hz : z < R512) (w : World) (hT : T w) : Calls Tryd.prog 3 #[.agg (B32 (bdig a)), .agg (B32 (bdig b)), .agg (B32 (bdig c)), .agg (B64 (bdig z))] w fun x w' => x = .returned (.bool true) ∧ Below w.heap.size w w' := by
  obtain ⟨d, Hd⟩ : ∃ d, Hid (decide (a < LL) = d) := ⟨_, rfl⟩
  obtain ⟨m, Hm⟩ : ∃ x, Hid (a % LL = x) := ⟨_, rfl⟩
  obtain ⟨y, Hy⟩ : ∃ x, Hid (z % LL = x) := ⟨_, rfl⟩
  obtain ⟨s, Hs⟩ : ∃ x, Hid ((a * b + c) % LL = x) := ⟨_, rfl⟩
  have same_m := B32_same m (by rw [← Hm.out]; exact lt_of_modL)
  have same_y := B32_same y (by rw [← Hy.out]; exact lt_of_modL)
  have same_s := B32_same s (by rw [← Hs.out]; exact lt_of_modL)
  go_enter Tryd.func3, Tryd.ntmps3
  go_upto_region 1 with fail
  have hKq := ((((Kp.nil w).alloc (B32 (bdig a)) 22).alloc (B32 (bdig b)) 22).alloc (B32 (bdig c)) 22).alloc (B64 (bdig z)) 23
  rw [World.size_alloc, World.size_alloc, World.size_alloc] at hKq
  generalize (((w.alloc (.cells (B32 (bdig a)) 22)).alloc (.cells (B32 (bdig b)) 22)).alloc (.cells (B32 (bdig c)) 22)).alloc (.cells (B64 (bdig z)) 23) = wq at *
  obtain ⟨bA, H1⟩ : ∃ bA, Hid (w.heap.size = bA) := ⟨_, rfl⟩
  obtain ⟨bB, H2⟩ : ∃ bB, Hid (bA + 1 = bB) := ⟨_, rfl⟩
  obtain ⟨bC, H3⟩ : ∃ bC, Hid (bB + 1 = bC) := ⟨_, rfl⟩
  obtain ⟨bW, H4⟩ : ∃ bW, Hid (bC + 1 = bW) := ⟨_, rfl⟩
  rw [H1.out, H2.out, H3.out, H4.out] at hKq ⊢
  have hTq := F.keep _ _ hT hKq.2
  refine wp_region_stable 42 (by kernel_rfl) (by kernel_rfl) (by rfl) (fun i vv _ => vv = valX a b c z m y s bA bW d i) (fun _ _ _ _ _ h => h) ?_ ?_
  · intro L ac wc i o hF ho hd
    rcases i with _ | _ | _ | _ | _ | _ | _ | _ | _ | _ | _ | _ | _ | _ | _ | _ | _ | _ | _ | _ | _ | _ | _ | _ | _ | _ | _ | _ | _ | _ | _ | _ | _ | _ | i
    · obtain rfl := Option.some.inj ho
      have f4 : ac.tmps.getD 4 undef = .pointer (some ⟨bA, 0, none⟩) := slot hF 4 (by kernel_rfl)
      refine ⟨wanted_free rfl, fun K hK => ?_⟩
      exact wp_load_own 22 (.tmp 4) rfl bA f4 (B32 (bdig a)) _ 22 ((hKq.below hF.cls).at bA (B32 (bdig a)) 22 (by simp)) Tryd.underlying22 rfl (B32_info _) (hK _ _ (Below.refl _ _) rfl)
    · obtain rfl := Option.some.inj ho
      have f9 : ac.tmps.getD 9 undef = .agg (B32 (bdig a)) := hF.fact 0 _ _ rfl rfl (dep hd 0 (by kernel_rfl))
      refine ⟨wanted_free rfl, fun K hK => ?_⟩
      unfold Oper.wp
      go_simp
      refine (F.check a ha _ (F.keep _ _ hTq hF.cls)).mono ?_
      rintro e w' ⟨rfl, hB⟩
      rw [Hd.out]
      exact hK _ _ hB rfl
    · obtain rfl := Option.some.inj ho
      have f4 : ac.tmps.getD 4 undef = .pointer (some ⟨bA, 0, none⟩) := slot hF 4 (by kernel_rfl)
      refine ⟨wanted_free rfl, fun K hK => ?_⟩
      exact wp_load_own 22 (.tmp 4) rfl bA f4 (B32 (bdig a)) _ 22 ((hKq.below hF.cls).at bA (B32 (bdig a)) 22 (by simp)) Tryd.underlying22 rfl (B32_info _) (hK _ _ (Below.refl _ _) rfl)
    · obtain rfl := Option.some.inj ho
      have f11 : ac.tmps.getD 11 undef = .agg (B32 (bdig a)) := hF.fact 2 _ _ rfl rfl (dep hd 2 (by kernel_rfl))
      refine ⟨wanted_free rfl, fun K hK => ?_⟩
      unfold Oper.wp
      go_simp
      refine (below_any a ha _).mono ?_
      rintro e w' ⟨rfl, hB⟩
      rw [Hd.out]
      exact hK _ _ hB rfl
    · obtain rfl := Option.some.inj ho
      have f10 : ac.tmps.getD 10 undef = .bool d := hF.fact 1 _ _ rfl rfl (dep hd 1 (by kernel_rfl))
      have f12 : ac.tmps.getD 12 undef = .bool d := hF.fact 3 _ _ rfl rfl (dep hd 3 (by kernel_rfl))
      refine ⟨wanted_free rfl, fun K hK => ?_⟩
      unfold Oper.wp
      go_simp
      exact hK _ _ (Below.refl _ _) rfl
    · obtain rfl := Option.some.inj ho
      have f13 : ac.tmps.getD 13 undef = .bool true := hF.fact 4 _ _ rfl rfl (dep hd 4 (by kernel_rfl))
      refine ⟨wanted_free rfl, fun K hK => ?_⟩
      unfold Oper.wp
      go_simp
      exact hK _ _ (Below.refl _ _) rfl
    · obtain rfl := Option.some.inj ho
      have f4 : ac.tmps.getD 4 undef = .pointer (some ⟨bA, 0, none⟩) := slot hF 4 (by kernel_rfl)
      have fg : ac.tmps.getD 14 undef = .bool true := hF.fact 5 _ _ rfl rfl (dep hd 5 (by kernel_rfl))
      refine ⟨wanted_true (g := 5) rfl rfl rfl fg, fun K hK => ?_⟩
      exact wp_load_own 22 (.tmp 4) rfl bA f4 (B32 (bdig a)) _ 22 ((hKq.below hF.cls).at bA (B32 (bdig a)) 22 (by simp)) Tryd.underlying22 rfl (B32_info _) (hK _ _ (Below.refl _ _) rfl)
    · obtain rfl := Option.some.inj ho
      have f15 : ac.tmps.getD 15 undef = .agg (B32 (bdig a)) := hF.fact 6 _ _ rfl rfl (dep hd 6 (by kernel_rfl))
      have fg : ac.tmps.getD 14 undef = .bool true := hF.fact 5 _ _ rfl rfl (dep hd 5 (by kernel_rfl))
      refine ⟨wanted_true (g := 5) rfl rfl rfl fg, fun K hK => ?_⟩
      unfold Oper.wp
      go_simp
      refine (F.modA ha Hm.out _ (F.keep _ _ hTq hF.cls)).mono ?_
      rintro e w' ⟨rfl, hB⟩
      exact hK _ _ hB rfl
    · obtain rfl := Option.some.inj ho
      have f4 : ac.tmps.getD 4 undef = .pointer (some ⟨bA, 0, none⟩) := slot hF 4 (by kernel_rfl)
      have fg : ac.tmps.getD 14 undef = .bool true := hF.fact 5 _ _ rfl rfl (dep hd 5 (by kernel_rfl))
      refine ⟨wanted_true (g := 5) rfl rfl rfl fg, fun K hK => ?_⟩
      unfold Oper.wp
      go_simp
      exact hK _ _ (Below.refl _ _) rfl
    · obtain rfl := Option.some.inj ho
      have f17 : ac.tmps.getD 17 undef = .slice (some ⟨bA, 0, none⟩) 32 32 := hF.fact 8 _ _ rfl rfl (dep hd 8 (by kernel_rfl))
      have fg : ac.tmps.getD 14 undef = .bool true := hF.fact 5 _ _ rfl rfl (dep hd 5 (by kernel_rfl))
      refine ⟨wanted_true (g := 5) rfl rfl rfl fg, fun K hK => ?_⟩
      unfold Oper.wp
      go_simp
      refine (pmodL32 ((hKq.below hF.cls).at bA (B32 (bdig a)) 22 (by simp)) ha Hm.out).mono ?_
      rintro e w' ⟨rfl, hB⟩
      exact hK _ _ hB rfl
    · obtain rfl := Option.some.inj ho
      have f16 : ac.tmps.getD 16 undef = .agg (B32 (bdig m)) := hF.fact 7 _ _ rfl rfl (dep hd 7 (by kernel_rfl))
      have f18 : ac.tmps.getD 18 undef = .agg (B32 (bdig m)) := hF.fact 9 _ _ rfl rfl (dep hd 9 (by kernel_rfl))
      have fg : ac.tmps.getD 14 undef = .bool true := hF.fact 5 _ _ rfl rfl (dep hd 5 (by kernel_rfl))
      refine ⟨wanted_true (g := 5) rfl rfl rfl fg, fun K hK => ?_⟩
      unfold Oper.wp
      go_simp
      exact hK _ _ (Below.refl _ _) rfl
    · obtain rfl := Option.some.inj ho
      have f14 : ac.tmps.getD 14 undef = .bool true := hF.fact 5 _ _ rfl rfl (dep hd 5 (by kernel_rfl))
      have f19 : ac.tmps.getD 19 undef = .bool true := hF.fact 10 _ _ rfl rfl (dep hd 10 (by kernel_rfl))
      refine ⟨wanted_free rfl, fun K hK => ?_⟩
      unfold Oper.wp
      go_simp
      exact hK _ _ (Below.refl _ _) rfl
    · obtain rfl := Option.some.inj ho
      have f20 : ac.tmps.getD 20 undef = .bool true := hF.fact 11 _ _ rfl rfl (dep hd 11 (by kernel_rfl))
      refine ⟨wanted_free rfl, fun K hK => ?_⟩
      unfold Oper.wp
      go_simp
      exact hK _ _ (Below.refl _ _) rfl
    · obtain rfl := Option.some.inj ho
      have f7 : ac.tmps.getD 7 undef = .pointer (some ⟨bW, 0, none⟩) := slot hF 7 (by kernel_rfl)
      have fg : ac.tmps.getD 21 undef = .bool true := hF.fact 12 _ _ rfl rfl (dep hd 12 (by kernel_rfl))
      refine ⟨wanted_true (g := 12) rfl rfl rfl fg, fun K hK => ?_⟩
      exact wp_load_own 23 (.tmp 7) rfl bW f7 (B64 (bdig z)) _ 23 ((hKq.below hF.cls).at bW (B64 (bdig z)) 23 (by simp)) Tryd.underlying23 rfl (B64_info _) (hK _ _ (Below.refl _ _) rfl)
    · obtain rfl := Option.some.inj ho
      have f22 : ac.tmps.getD 22 undef = .agg (B64 (bdig z)) := hF.fact 13 _ _ rfl rfl (dep hd 13 (by kernel_rfl))
      have fg : ac.tmps.getD 21 undef = .bool true := hF.fact 12 _ _ rfl rfl (dep hd 12 (by kernel_rfl))
      refine ⟨wanted_true (g := 12) rfl rfl rfl fg, fun K hK => ?_⟩
      unfold Oper.wp
      go_simp
      refine (F.wideA hz Hy.out _ (F.keep _ _ hTq hF.cls)).mono ?_
      rintro e w' ⟨rfl, hB⟩
      exact hK _ _ hB rfl
    · obtain rfl := Option.some.inj ho
      have f7 : ac.tmps.getD 7 undef = .pointer (some ⟨bW, 0, none⟩) := slot hF 7 (by kernel_rfl)
      have fg : ac.tmps.getD 21 undef = .bool true := hF.fact 12 _ _ rfl rfl (dep hd 12 (by kernel_rfl))
      refine ⟨wanted_true (g := 12) rfl rfl rfl fg, fun K hK => ?_⟩
      unfold Oper.wp
      go_simp
      exact hK _ _ (Below.refl _ _) rfl
    · obtain rfl := Option.some.inj ho
      have f24 : ac.tmps.getD 24 undef = .slice (some ⟨bW, 0, none⟩) 64 64 := hF.fact 15 _ _ rfl rfl (dep hd 15 (by kernel_rfl))
      have fg : ac.tmps.getD 21 undef = .bool true := hF.fact 12 _ _ rfl rfl (dep hd 12 (by kernel_rfl))
      refine ⟨wanted_true (g := 12) rfl rfl rfl fg, fun K hK => ?_⟩
      unfold Oper.wp
      go_simp
      refine (pmodL64 ((hKq.below hF.cls).at bW (B64 (bdig z)) 23 (by simp)) hz Hy.out).mono ?_
      rintro e w' ⟨rfl, hB⟩
      exact hK _ _ hB rfl
    · obtain rfl := Option.some.inj ho
      have f23 : ac.tmps.getD 23 undef = .agg (B32 (bdig y)) := hF.fact 14 _ _ rfl rfl (dep hd 14 (by kernel_rfl))
      have f25 : ac.tmps.getD 25 undef = .agg (B32 (bdig y)) := hF.fact 16 _ _ rfl rfl (dep hd 16 (by kernel_rfl))
      have fg : ac.tmps.getD 21 undef = .bool true := hF.fact 12 _ _ rfl rfl (dep hd 12 (by kernel_rfl))
      refine ⟨wanted_true (g := 12) rfl rfl rfl fg, fun K hK => ?_⟩
      unfold Oper.wp
      go_simp
      exact hK _ _ (Below.refl _ _) rfl
    · obtain rfl := Option.some.inj ho
      have f21 : ac.tmps.getD 21 undef = .bool true := hF.fact 12 _ _ rfl rfl (dep hd 12 (by kernel_rfl))
      have f26 : ac.tmps.getD 26 undef = .bool true := hF.fact 17 _ _ rfl rfl (dep hd 17 (by kernel_rfl))
      refine ⟨wanted_free rfl, fun K hK => ?_⟩
      unfold Oper.wp
      go_simp
      exact hK _ _ (Below.refl _ _) rfl
    · obtain rfl := Option.some.inj ho
      have f27 : ac.tmps.getD 27 undef = .bool true := hF.fact 18 _ _ rfl rfl (dep hd 18 (by kernel_rfl))
      refine ⟨wanted_free rfl, fun K hK => ?_⟩
      unfold Oper.wp
      go_simp
      exact hK _ _ (Below.refl _ _) rfl
    · obtain rfl := Option.some.inj ho
      have f4 : ac.tmps.getD 4 undef = .pointer (some ⟨bA, 0, none⟩) := slot hF 4 (by kernel_rfl)
      have fg : ac.tmps.getD 28 undef = .bool true := hF.fact 19 _ _ rfl rfl (dep hd 19 (by kernel_rfl))
      refine ⟨wanted_true (g := 19) rfl rfl rfl fg, fun K hK => ?_⟩
      exact wp_load_own 22 (.tmp 4) rfl bA f4 (B32 (bdig a)) _ 22 ((hKq.below hF.cls).at bA (B32 (bdig a)) 22 (by simp)) Tryd.underlying22 rfl (B32_info _) (hK _ _ (Below.refl _ _) rfl)
    · obtain rfl := Option.some.inj ho
      have f5 : ac.tmps.getD 5 undef = .pointer (some ⟨bB, 0, none⟩) := slot hF 5 (by kernel_rfl)
      have fg : ac.tmps.getD 28 undef = .bool true := hF.fact 19 _ _ rfl rfl (dep hd 19 (by kernel_rfl))
      refine ⟨wanted_true (g := 19) rfl rfl rfl fg, fun K hK => ?_⟩
      exact wp_load_own 22 (.tmp 5) rfl bB f5 (B32 (bdig b)) _ 22 ((hKq.below hF.cls).at bB (B32 (bdig b)) 22 (by simp)) Tryd.underlying22 rfl (B32_info _) (hK _ _ (Below.refl _ _) rfl)
    · obtain rfl := Option.some.inj ho
      have f6 : ac.tmps.getD 6 undef = .pointer (some ⟨bC, 0, none⟩) := slot hF 6 (by kernel_rfl)
      have fg : ac.tmps.getD 28 undef = .bool true := hF.fact 19 _ _ rfl rfl (dep hd 19 (by kernel_rfl))
      refine ⟨wanted_true (g := 19) rfl rfl rfl fg, fun K hK => ?_⟩
      exact wp_load_own 22 (.tmp 6) rfl bC f6 (B32 (bdig c)) _ 22 ((hKq.below hF.cls).at bC (B32 (bdig c)) 22 (by simp)) Tryd.underlying22 rfl (B32_info _) (hK _ _ (Below.refl _ _) rfl)
    · obtain rfl := Option.some.inj ho
      have f29 : ac.tmps.getD 29 undef = .agg (B32 (bdig a)) := hF.fact 20 _ _ rfl rfl (dep hd 20 (by kernel_rfl))
      have f30 : ac.tmps.getD 30 undef = .agg (B32 (bdig b)) := hF.fact 21 _ _ rfl rfl (dep hd 21 (by kernel_rfl))
      have f31 : ac.tmps.getD 31 undef = .agg (B32 (bdig c)) := hF.fact 22 _ _ rfl rfl (dep hd 22 (by kernel_rfl))
      have fg : ac.tmps.getD 28 undef = .bool true := hF.fact 19 _ _ rfl rfl (dep hd 19 (by kernel_rfl))
      refine ⟨wanted_true (g := 19) rfl rfl rfl fg, fun K hK => ?_⟩
      unfold Oper.wp
      go_simp
      refine (F.muladdA ha hb hc Hs.out _ (F.keep _ _ hTq hF.cls)).mono ?_
      rintro e w' ⟨rfl, hB⟩
      exact hK _ _ hB rfl
    · obtain rfl := Option.some.inj ho
      have f4 : ac.tmps.getD 4 undef = .pointer (some ⟨bA, 0, none⟩) := slot hF 4 (by kernel_rfl)
      have fg : ac.tmps.getD 28 undef = .bool true := hF.fact 19 _ _ rfl rfl (dep hd 19 (by kernel_rfl))
      refine ⟨wanted_true (g := 19) rfl rfl rfl fg, fun K hK => ?_⟩
      exact wp_load_own 22 (.tmp 4) rfl bA f4 (B32 (bdig a)) _ 22 ((hKq.below hF.cls).at bA (B32 (bdig a)) 22 (by simp)) Tryd.underlying22 rfl (B32_info _) (hK _ _ (Below.refl _ _) rfl)
    · obtain rfl := Option.some.inj ho
      have f5 : ac.tmps.getD 5 undef = .pointer (some ⟨bB, 0, none⟩) := slot hF 5 (by kernel_rfl)
      have fg : ac.tmps.getD 28 undef = .bool true := hF.fact 19 _ _ rfl rfl (dep hd 19 (by kernel_rfl))
      refine ⟨wanted_true (g := 19) rfl rfl rfl fg, fun K hK => ?_⟩
      exact wp_load_own 22 (.tmp 5) rfl bB f5 (B32 (bdig b)) _ 22 ((hKq.below hF.cls).at bB (B32 (bdig b)) 22 (by simp)) Tryd.underlying22 rfl (B32_info _) (hK _ _ (Below.refl _ _) rfl)
    · obtain rfl := Option.some.inj ho
      have f6 : ac.tmps.getD 6 undef = .pointer (some ⟨bC, 0, none⟩) := slot hF 6 (by kernel_rfl)
      have fg : ac.tmps.getD 28 undef = .bool true := hF.fact 19 _ _ rfl rfl (dep hd 19 (by kernel_rfl))
      refine ⟨wanted_true (g := 19) rfl rfl rfl fg, fun K hK => ?_⟩
      exact wp_load_own 22 (.tmp 6) rfl bC f6 (B32 (bdig c)) _ 22 ((hKq.below hF.cls).at bC (B32 (bdig c)) 22 (by simp)) Tryd.underlying22 rfl (B32_info _) (hK _ _ (Below.refl _ _) rfl)
    · obtain rfl := Option.some.inj ho
      have f33 : ac.tmps.getD 33 undef = .agg (B32 (bdig a)) := hF.fact 24 _ _ rfl rfl (dep hd 24 (by kernel_rfl))
      have f34 : ac.tmps.getD 34 undef = .agg (B32 (bdig b)) := hF.fact 25 _ _ rfl rfl (dep hd 25 (by kernel_rfl))
      have f35 : ac.tmps.getD 35 undef = .agg (B32 (bdig c)) := hF.fact 26 _ _ rfl rfl (dep hd 26 (by kernel_rfl))
      have fg : ac.tmps.getD 28 undef = .bool true := hF.fact 19 _ _ rfl rfl (dep hd 19 (by kernel_rfl))
      refine ⟨wanted_true (g := 19) rfl rfl rfl fg, fun K hK => ?_⟩
      unfold Oper.wp
      go_simp
      refine (pmuladd_at ha hb hc Hs.out _).mono ?_
      rintro e w' ⟨rfl, hB⟩
      exact hK _ _ hB rfl
    · obtain rfl := Option.some.inj ho
      have f32 : ac.tmps.getD 32 undef = .agg (B32 (bdig s)) := hF.fact 23 _ _ rfl rfl (dep hd 23 (by kernel_rfl))
      have f36 : ac.tmps.getD 36 undef = .agg (B32 (bdig s)) := hF.fact 27 _ _ rfl rfl (dep hd 27 (by kernel_rfl))
      have fg : ac.tmps.getD 28 undef = .bool true := hF.fact 19 _ _ rfl rfl (dep hd 19 (by kernel_rfl))
      refine ⟨wanted_true (g := 19) rfl rfl rfl fg, fun K hK => ?_⟩
      unfold Oper.wp
      go_simp
      exact hK _ _ (Below.refl _ _) rfl
    · obtain rfl := Option.some.inj ho
      have f28 : ac.tmps.getD 28 undef = .bool true := hF.fact 19 _ _ rfl rfl (dep hd 19 (by kernel_rfl))
      have f37 : ac.tmps.getD 37 undef = .bool true := hF.fact 28 _ _ rfl rfl (dep hd 28 (by kernel_rfl))
      refine ⟨wanted_free rfl, fun K hK => ?_⟩
      unfold Oper.wp
      go_simp
      exact hK _ _ (Below.refl _ _) rfl
    · obtain rfl := Option.some.inj ho
      have f38 : ac.tmps.getD 38 undef = .bool true := hF.fact 29 _ _ rfl rfl (dep hd 29 (by kernel_rfl))
      refine ⟨wanted_free rfl, fun K hK => ?_⟩
      unfold Oper.wp
      go_simp
      exact hK _ _ (Below.refl _ _) rfl
    · obtain rfl := Option.some.inj ho
      have fg : ac.tmps.getD 39 undef = .bool true := hF.fact 30 _ _ rfl rfl (dep hd 30 (by kernel_rfl))
      refine ⟨wanted_true (g := 30) rfl rfl rfl fg, fun K hK => ?_⟩
      unfold Oper.wp
      go_simp
      refine (swakes_any F.toSclT _ (F.keep _ _ hTq hF.cls)).mono ?_
      rintro e w' ⟨rfl, hB⟩
      exact hK _ _ hB rfl
    · obtain rfl := Option.some.inj ho
      have f39 : ac.tmps.getD 39 undef = .bool true := hF.fact 30 _ _ rfl rfl (dep hd 30 (by kernel_rfl))
      have f40 : ac.tmps.getD 40 undef = .bool true := hF.fact 31 _ _ rfl rfl (dep hd 31 (by kernel_rfl))
      refine ⟨wanted_free rfl, fun K hK => ?_⟩
      unfold Oper.wp
      go_simp
      exact hK _ _ (Below.refl _ _) rfl
    · obtain rfl := Option.some.inj ho
      have f41 : ac.tmps.getD 41 undef = .bool true := hF.fact 32 _ _ rfl rfl (dep hd 32 (by kernel_rfl))
      refine ⟨wanted_free rfl, fun K hK => ?_⟩
      unfold Oper.wp
      go_simp
      exact hK _ _ (Below.refl _ _) rfl
    · cases ho
  · intro L ac wc hL hF
    have fe : ac.tmps.getD 8 undef = .bool true := hF.fact 33 _ 8 rfl rfl (hL 33 (by decide))
    have hb' := (hKq.below hF.cls).2
    go_wp2
    exact bodyPost_ret (results_tmp rfl _ _ _) hF.defers ⟨by rw [fe], hb'⟩
end Go.Proofs.YtofoihebhdpjlaaDoor
