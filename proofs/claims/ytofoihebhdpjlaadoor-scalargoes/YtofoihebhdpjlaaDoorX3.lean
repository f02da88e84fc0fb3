/- The walk of the law ScalarGoes, over the program's functions by their contracts. -/
import Derived.Test.YtofoihebhdpjlaaDoorS3
namespace Go.Proofs.YtofoihebhdpjlaaDoor
open Go.RowKit
theorem left_mul (x c d : Nat) : (x % LL * c + d) % LL = (x * c + d) % LL := by rw [Nat.add_mod, Nat.mod_mul_mod, ← Nat.add_mod]
theorem right_mul (x c d : Nat) : (x * (c % LL) + d) % LL = (x * c + d) % LL := by rw [Nat.add_mod, Nat.mul_mod_mod, ← Nat.add_mod]
theorem goes_sum (a b c d : Nat) : (a * c + (b * c + d) % LL) % LL = ((a * 1 + b) % LL * c + d) % LL := by
  rw [left_mul, Nat.add_mod_mod, Nat.mul_one, Nat.add_mul, Nat.add_assoc]
theorem goes_prod (a b c : Nat) : (a * ((b * c + 0) % LL) + 0) % LL = ((a * b + 0) % LL * c + 0) % LL := by
  rw [left_mul, right_mul, Nat.add_zero, Nat.add_zero, Nat.add_zero, Nat.add_zero, Nat.mul_assoc]
def factGo (a b s : Nat) : Nat → Value → Prop
  | 0, v => v = .agg (B32 (bdig a))
  | 1, v => v = .func (Fn.func 17) #[] #[]
  | 2, v => v = .agg (B32 (bdig 1))
  | 3, v => v = .agg (B32 (bdig b))
  | 4, v => v = .agg (B32 (bdig s))
  | 5, v => ∃ g, v = .pointer (some ⟨g, 0, none⟩)
  | _, _ => True
def valGo (a b c v s u f p q r : Nat) : Nat → Value
  | 0 => .agg (B32 (bdig s))
  | 1 => .agg (B32 (bdig c))
  | 2 => .agg (B32 (bdig v))
  | 3 => .agg (B32 (bdig u))
  | 4 => .agg (B32 (bdig a))
  | 5 => .agg (B32 (bdig c))
  | 6 => .agg (B32 (bdig b))
  | 7 => .agg (B32 (bdig c))
  | 8 => .agg (B32 (bdig v))
  | 9 => .agg (B32 (bdig f))
  | 10 => .agg (B32 (bdig u))
  | 13 => .agg (B32 (bdig a))
  | 14 => .agg (B32 (bdig b))
  | 15 => .func (Fn.func 17) #[] #[]
  | 16 => .agg (B32 (bdig 0))
  | 17 => .agg (B32 (bdig p))
  | 18 => .agg (B32 (bdig c))
  | 19 => .func (Fn.func 17) #[] #[]
  | 20 => .agg (B32 (bdig 0))
  | 21 => .agg (B32 (bdig q))
  | 22 => .agg (B32 (bdig a))
  | 23 => .agg (B32 (bdig b))
  | 24 => .agg (B32 (bdig c))
  | 25 => .func (Fn.func 17) #[] #[]
  | 26 => .agg (B32 (bdig 0))
  | 27 => .agg (B32 (bdig r))
  | 28 => .func (Fn.func 17) #[] #[]
  | 29 => .agg (B32 (bdig 0))
  | 30 => .agg (B32 (bdig q))
  | _ => .bool true

set_option maxRecDepth 100000 in
set_option maxHeartbeats 16000000 in
theorem sgoes_any {T : World → Prop} (F : Scl T) (a b c v : Nat) (ha : a < R256) (hb : b < R256) (hc : c < R256) (hv : v < R256) (w : World) (hT : T w) : Calls Tryd.prog 5 #[.agg (B32 (bdig a)), .agg (B32 (bdig b)), .agg (B32 (bdig c)), .agg (B32 (bdig v))] w fun x w' => x = .returned (.bool true) ∧ Below w.heap.size w w' := by
  have hz := (zero_of_info zeroB32).1
  have h0 : 0 < R256 := by decide
  obtain ⟨s, Hs⟩ : ∃ x, Hid ((a * 1 + b) % LL = x) := ⟨_, rfl⟩
  have hs : s < R256 := by rw [← Hs.out]; exact lt_of_modL
  obtain ⟨u, Hu⟩ : ∃ x, Hid ((s * c + v) % LL = x) := ⟨_, rfl⟩
  have hu : u < R256 := by rw [← Hu.out]; exact lt_of_modL
  obtain ⟨f, Hf⟩ : ∃ x, Hid ((b * c + v) % LL = x) := ⟨_, rfl⟩
  have hf : f < R256 := by rw [← Hf.out]; exact lt_of_modL
  obtain ⟨p, Hp⟩ : ∃ x, Hid ((a * b + 0) % LL = x) := ⟨_, rfl⟩
  have hp : p < R256 := by rw [← Hp.out]; exact lt_of_modL
  obtain ⟨q, Hq⟩ : ∃ x, Hid ((p * c + 0) % LL = x) := ⟨_, rfl⟩
  have hq : q < R256 := by rw [← Hq.out]; exact lt_of_modL
  obtain ⟨r, Hr⟩ : ∃ x, Hid ((b * c + 0) % LL = x) := ⟨_, rfl⟩
  have hr : r < R256 := by rw [← Hr.out]; exact lt_of_modL
  have Hu2 : Hid ((a * c + f) % LL = u) := by show _ = _; rw [← Hf.out, ← Hu.out, ← Hs.out]; exact goes_sum a b c v
  have Hq2 : Hid ((a * r + 0) % LL = q) := by show _ = _; rw [← Hr.out, ← Hq.out, ← Hp.out]; exact goes_prod a b c
  have same_u := B32_same u hu
  have same_q := B32_same q hq
  go_enter Tryd.func5, Tryd.ntmps5
  go_upto_region 2 with fail
  have hK := ((((Kp.nil w).alloc (B32 (bdig a)) 22).alloc (B32 (bdig b)) 22).alloc (B32 (bdig c)) 22).alloc (B32 (bdig v)) 22
  rw [World.size_alloc, World.size_alloc, World.size_alloc] at hK
  generalize (((w.alloc (.cells (B32 (bdig a)) 22)).alloc (.cells (B32 (bdig b)) 22)).alloc (.cells (B32 (bdig c)) 22)).alloc (.cells (B32 (bdig v)) 22) = W at *
  obtain ⟨bA, H1⟩ : ∃ bA, Hid (w.heap.size = bA) := ⟨_, rfl⟩
  obtain ⟨bB, H2⟩ : ∃ bB, Hid (bA + 1 = bB) := ⟨_, rfl⟩
  obtain ⟨bC, H3⟩ : ∃ bC, Hid (bB + 1 = bC) := ⟨_, rfl⟩
  obtain ⟨bD, H4⟩ : ∃ bD, Hid (bC + 1 = bD) := ⟨_, rfl⟩
  rw [H1.out, H2.out, H3.out, H4.out] at hK ⊢
  refine wp_region_told 52 (by kernel_rfl) (by kernel_rfl) (by rfl) (factGo a b s) (fun L vs => Mk [(bD, B32 (bdig v), 22), (bC, B32 (bdig c), 22), (bB, B32 (bdig b), 22), (bA, B32 (bdig a), 22)] w (B32 fun _ => 0) (B32 (bdig s)) 22 (L 5) (L 6) (vs 5)) (fun _ => Mk.drew hK) ?_ ?_
  · intro L vs ac wc i o' hF hLi ho hd K hK
    rcases i with _ | _ | _ | _ | _ | _ | _ | i
    · have ho' := ho
      obtain rfl := Option.some.inj ho
      have f4 : ac.tmps.getD 4 undef = .pointer (some ⟨bA, 0, none⟩) := slott hF 0 hLi 4 (by kernel_rfl)
      refine step_do ho' (wanted_free rfl) ?_
      exact wp_load_own 22 (.tmp 4) rfl bA f4 (B32 (bdig a)) _ 22 hF.j.1.h4 Tryd.underlying22 rfl (B32_info _) (hK _ _ (.inr rfl) hF.j)
    · have ho' := ho
      obtain rfl := Option.some.inj ho
      have f9 : ac.tmps.getD 9 undef = .func (Fn.func 17) #[] #[] := slott hF 1 hLi 9 (by kernel_rfl)
      refine step_do ho' (wanted_free rfl) ?_
      unfold Oper.wp
      go_simp
      exact hK _ _ (.inr rfl) hF.j
    · have ho' := ho
      obtain rfl := Option.some.inj ho
      have f12 : ac.tmps.getD 12 undef = .func (Fn.func 17) #[] #[] := (factt hF hd 1 rfl rfl (by kernel_rfl)).1.trans (factt hF hd 1 rfl rfl (by kernel_rfl)).2
      refine step_do ho' (wanted_free rfl) ?_
      unfold Oper.wp
      go_simp
      refine (num_any 1 (by decide) _).mono ?_
      rintro e w' ⟨rfl, hB⟩
      exact hK _ _ (.inr rfl) (hF.j.below hB)
    · have ho' := ho
      obtain rfl := Option.some.inj ho
      have f5 : ac.tmps.getD 5 undef = .pointer (some ⟨bB, 0, none⟩) := slott hF 3 hLi 5 (by kernel_rfl)
      refine step_do ho' (wanted_free rfl) ?_
      exact wp_load_own 22 (.tmp 5) rfl bB f5 (B32 (bdig b)) _ 22 hF.j.1.h3 Tryd.underlying22 rfl (B32_info _) (hK _ _ (.inr rfl) hF.j)
    · have ho' := ho
      obtain rfl := Option.some.inj ho
      have f11 : ac.tmps.getD 11 undef = .agg (B32 (bdig a)) := (factt hF hd 0 rfl rfl (by kernel_rfl)).1.trans (factt hF hd 0 rfl rfl (by kernel_rfl)).2
      have f13 : ac.tmps.getD 13 undef = .agg (B32 (bdig 1)) := (factt hF hd 2 rfl rfl (by kernel_rfl)).1.trans (factt hF hd 2 rfl rfl (by kernel_rfl)).2
      have f14 : ac.tmps.getD 14 undef = .agg (B32 (bdig b)) := (factt hF hd 3 rfl rfl (by kernel_rfl)).1.trans (factt hF hd 3 rfl rfl (by kernel_rfl)).2
      refine step_do ho' (wanted_free rfl) ?_
      unfold Oper.wp
      go_simp
      refine (F.muladdA ha (by decide) hb Hs.out _ (F.keep _ _ hT hF.j.1.2)).mono ?_
      rintro e w' ⟨rfl, hB⟩
      exact hK _ _ (.inr rfl) (hF.j.below hB)
    · have ho' := ho
      obtain rfl := Option.some.inj ho
      refine step_do ho' (wanted_free rfl) ?_
      have hs := notyett hF 5 hLi 6 rfl (by kernel_rfl)
      unfold Oper.wp
      go_simp
      exact hK _ _ (.inr ⟨_, rfl⟩) (Mk.alloc hF.j.1 hs)
    · have ho' := ho
      obtain rfl := Option.some.inj ho
      have f15 : ac.tmps.getD 15 undef = .agg (B32 (bdig s)) := (factt hF hd 4 rfl rfl (by kernel_rfl)).1.trans (factt hF hd 4 rfl rfl (by kernel_rfl)).2
      refine step_do ho' (wanted_free rfl) ?_
      obtain ⟨fg, g, hg⟩ := factt hF hd 5 rfl rfl (by kernel_rfl)
      have hm := dep hd 5 (by kernel_rfl)
      have hj := hF.j
      rw [hg] at fg
      have hj2 := hj.at hm hg hLi
      refine wp_store_own 22 (.tmp 10) (.tmp 15) rfl g (B32 (bdig s)) fg f15 hj2.2.2 (B32_sizes _ _) (B32_info _) (B32_one _) rfl ?_
      exact hK undef _ (.inl rfl) (hj.store hm hg hLi (B32_sizes _ _))
    · cases ho
  · intro L vs wq hL hJ hf
    obtain ⟨g, hg⟩ := hf 5 _ _ rfl rfl
    obtain ⟨hKq, hgl, hgn⟩ := hJ.done (hL 5 (by decide)) hg (hL 6 (by decide))
    have e0 : vs 0 = _ := hf 0 _ _ rfl rfl
    have e1 : vs 1 = _ := hf 1 _ _ rfl rfl
    have e2 : vs 2 = _ := hf 2 _ _ rfl rfl
    have e3 : vs 3 = _ := hf 3 _ _ rfl rfl
    have e4 : vs 4 = _ := hf 4 _ _ rfl rfl
    simp only [putAll, Nat.zero_add, Nat.reduceAdd, e0, e1, e2, e3, e4, hg, Act.put, List.setIfInBounds_toArray, List.set_cons_succ, List.set_cons_zero]
    clear hK hf hJ hL
    have hTq := F.keep _ _ hT hKq.2
    go_upto_region 3 with fail
    refine wp_region_stable 52 (by kernel_rfl) (by kernel_rfl) (by rfl) (fun i vv _ => vv = valGo a b c v s u f p q r i) (fun _ _ _ _ _ h => h) ?_ ?_
    · intro L ac wc i o hF ho hd
      rcases i with _ | _ | _ | _ | _ | _ | _ | _ | _ | _ | _ | _ | _ | _ | _ | _ | _ | _ | _ | _ | _ | _ | _ | _ | _ | _ | _ | _ | _ | _ | _ | _ | _ | _ | _ | _ | _ | i
      · obtain rfl := Option.some.inj ho
        have f10 : ac.tmps.getD 10 undef = .pointer (some ⟨g, 0, none⟩) := slot hF 10 (by kernel_rfl)
        refine ⟨wanted_free rfl, fun K hK => ?_⟩
        exact wp_load_own 22 (.tmp 10) rfl g f10 (B32 (bdig s)) _ 22 ((hKq.below hF.cls).at g (B32 (bdig s)) 22 (by simp)) Tryd.underlying22 rfl (B32_info _) (hK _ _ (Below.refl _ _) rfl)
      · obtain rfl := Option.some.inj ho
        have f6 : ac.tmps.getD 6 undef = .pointer (some ⟨bC, 0, none⟩) := slot hF 6 (by kernel_rfl)
        refine ⟨wanted_free rfl, fun K hK => ?_⟩
        exact wp_load_own 22 (.tmp 6) rfl bC f6 (B32 (bdig c)) _ 22 ((hKq.below hF.cls).at bC (B32 (bdig c)) 22 (by simp)) Tryd.underlying22 rfl (B32_info _) (hK _ _ (Below.refl _ _) rfl)
      · obtain rfl := Option.some.inj ho
        have f7 : ac.tmps.getD 7 undef = .pointer (some ⟨bD, 0, none⟩) := slot hF 7 (by kernel_rfl)
        refine ⟨wanted_free rfl, fun K hK => ?_⟩
        exact wp_load_own 22 (.tmp 7) rfl bD f7 (B32 (bdig v)) _ 22 ((hKq.below hF.cls).at bD (B32 (bdig v)) 22 (by simp)) Tryd.underlying22 rfl (B32_info _) (hK _ _ (Below.refl _ _) rfl)
      · obtain rfl := Option.some.inj ho
        have f16 : ac.tmps.getD 16 undef = .agg (B32 (bdig s)) := hF.fact 0 _ _ rfl rfl (dep hd 0 (by kernel_rfl))
        have f17 : ac.tmps.getD 17 undef = .agg (B32 (bdig c)) := hF.fact 1 _ _ rfl rfl (dep hd 1 (by kernel_rfl))
        have f18 : ac.tmps.getD 18 undef = .agg (B32 (bdig v)) := hF.fact 2 _ _ rfl rfl (dep hd 2 (by kernel_rfl))
        refine ⟨wanted_free rfl, fun K hK => ?_⟩
        unfold Oper.wp
        go_simp
        refine (F.muladdA hs hc hv Hu.out _ (F.keep _ _ hTq hF.cls)).mono ?_
        rintro e w' ⟨rfl, hB⟩
        exact hK _ _ hB rfl
      · obtain rfl := Option.some.inj ho
        have f4 : ac.tmps.getD 4 undef = .pointer (some ⟨bA, 0, none⟩) := slot hF 4 (by kernel_rfl)
        refine ⟨wanted_free rfl, fun K hK => ?_⟩
        exact wp_load_own 22 (.tmp 4) rfl bA f4 (B32 (bdig a)) _ 22 ((hKq.below hF.cls).at bA (B32 (bdig a)) 22 (by simp)) Tryd.underlying22 rfl (B32_info _) (hK _ _ (Below.refl _ _) rfl)
      · obtain rfl := Option.some.inj ho
        have f6 : ac.tmps.getD 6 undef = .pointer (some ⟨bC, 0, none⟩) := slot hF 6 (by kernel_rfl)
        refine ⟨wanted_free rfl, fun K hK => ?_⟩
        exact wp_load_own 22 (.tmp 6) rfl bC f6 (B32 (bdig c)) _ 22 ((hKq.below hF.cls).at bC (B32 (bdig c)) 22 (by simp)) Tryd.underlying22 rfl (B32_info _) (hK _ _ (Below.refl _ _) rfl)
      · obtain rfl := Option.some.inj ho
        have f5 : ac.tmps.getD 5 undef = .pointer (some ⟨bB, 0, none⟩) := slot hF 5 (by kernel_rfl)
        refine ⟨wanted_free rfl, fun K hK => ?_⟩
        exact wp_load_own 22 (.tmp 5) rfl bB f5 (B32 (bdig b)) _ 22 ((hKq.below hF.cls).at bB (B32 (bdig b)) 22 (by simp)) Tryd.underlying22 rfl (B32_info _) (hK _ _ (Below.refl _ _) rfl)
      · obtain rfl := Option.some.inj ho
        have f6 : ac.tmps.getD 6 undef = .pointer (some ⟨bC, 0, none⟩) := slot hF 6 (by kernel_rfl)
        refine ⟨wanted_free rfl, fun K hK => ?_⟩
        exact wp_load_own 22 (.tmp 6) rfl bC f6 (B32 (bdig c)) _ 22 ((hKq.below hF.cls).at bC (B32 (bdig c)) 22 (by simp)) Tryd.underlying22 rfl (B32_info _) (hK _ _ (Below.refl _ _) rfl)
      · obtain rfl := Option.some.inj ho
        have f7 : ac.tmps.getD 7 undef = .pointer (some ⟨bD, 0, none⟩) := slot hF 7 (by kernel_rfl)
        refine ⟨wanted_free rfl, fun K hK => ?_⟩
        exact wp_load_own 22 (.tmp 7) rfl bD f7 (B32 (bdig v)) _ 22 ((hKq.below hF.cls).at bD (B32 (bdig v)) 22 (by simp)) Tryd.underlying22 rfl (B32_info _) (hK _ _ (Below.refl _ _) rfl)
      · obtain rfl := Option.some.inj ho
        have f22 : ac.tmps.getD 22 undef = .agg (B32 (bdig b)) := hF.fact 6 _ _ rfl rfl (dep hd 6 (by kernel_rfl))
        have f23 : ac.tmps.getD 23 undef = .agg (B32 (bdig c)) := hF.fact 7 _ _ rfl rfl (dep hd 7 (by kernel_rfl))
        have f24 : ac.tmps.getD 24 undef = .agg (B32 (bdig v)) := hF.fact 8 _ _ rfl rfl (dep hd 8 (by kernel_rfl))
        refine ⟨wanted_free rfl, fun K hK => ?_⟩
        unfold Oper.wp
        go_simp
        refine (F.muladdA hb hc hv Hf.out _ (F.keep _ _ hTq hF.cls)).mono ?_
        rintro e w' ⟨rfl, hB⟩
        exact hK _ _ hB rfl
      · obtain rfl := Option.some.inj ho
        have f20 : ac.tmps.getD 20 undef = .agg (B32 (bdig a)) := hF.fact 4 _ _ rfl rfl (dep hd 4 (by kernel_rfl))
        have f21 : ac.tmps.getD 21 undef = .agg (B32 (bdig c)) := hF.fact 5 _ _ rfl rfl (dep hd 5 (by kernel_rfl))
        have f25 : ac.tmps.getD 25 undef = .agg (B32 (bdig f)) := hF.fact 9 _ _ rfl rfl (dep hd 9 (by kernel_rfl))
        refine ⟨wanted_free rfl, fun K hK => ?_⟩
        unfold Oper.wp
        go_simp
        refine (F.muladdA ha hc hf Hu2.out _ (F.keep _ _ hTq hF.cls)).mono ?_
        rintro e w' ⟨rfl, hB⟩
        exact hK _ _ hB rfl
      · obtain rfl := Option.some.inj ho
        have f19 : ac.tmps.getD 19 undef = .agg (B32 (bdig u)) := hF.fact 3 _ _ rfl rfl (dep hd 3 (by kernel_rfl))
        have f26 : ac.tmps.getD 26 undef = .agg (B32 (bdig u)) := hF.fact 10 _ _ rfl rfl (dep hd 10 (by kernel_rfl))
        refine ⟨wanted_free rfl, fun K hK => ?_⟩
        unfold Oper.wp
        go_simp
        exact hK _ _ (Below.refl _ _) rfl
      · obtain rfl := Option.some.inj ho
        have f27 : ac.tmps.getD 27 undef = .bool true := hF.fact 11 _ _ rfl rfl (dep hd 11 (by kernel_rfl))
        refine ⟨wanted_free rfl, fun K hK => ?_⟩
        unfold Oper.wp
        go_simp
        exact hK _ _ (Below.refl _ _) rfl
      · obtain rfl := Option.some.inj ho
        have f4 : ac.tmps.getD 4 undef = .pointer (some ⟨bA, 0, none⟩) := slot hF 4 (by kernel_rfl)
        have fg : ac.tmps.getD 28 undef = .bool true := hF.fact 12 _ _ rfl rfl (dep hd 12 (by kernel_rfl))
        refine ⟨wanted_true (g := 12) rfl rfl rfl fg, fun K hK => ?_⟩
        exact wp_load_own 22 (.tmp 4) rfl bA f4 (B32 (bdig a)) _ 22 ((hKq.below hF.cls).at bA (B32 (bdig a)) 22 (by simp)) Tryd.underlying22 rfl (B32_info _) (hK _ _ (Below.refl _ _) rfl)
      · obtain rfl := Option.some.inj ho
        have f5 : ac.tmps.getD 5 undef = .pointer (some ⟨bB, 0, none⟩) := slot hF 5 (by kernel_rfl)
        have fg : ac.tmps.getD 28 undef = .bool true := hF.fact 12 _ _ rfl rfl (dep hd 12 (by kernel_rfl))
        refine ⟨wanted_true (g := 12) rfl rfl rfl fg, fun K hK => ?_⟩
        exact wp_load_own 22 (.tmp 5) rfl bB f5 (B32 (bdig b)) _ 22 ((hKq.below hF.cls).at bB (B32 (bdig b)) 22 (by simp)) Tryd.underlying22 rfl (B32_info _) (hK _ _ (Below.refl _ _) rfl)
      · obtain rfl := Option.some.inj ho
        have f9 : ac.tmps.getD 9 undef = .func (Fn.func 17) #[] #[] := slot hF 9 (by kernel_rfl)
        have fg : ac.tmps.getD 28 undef = .bool true := hF.fact 12 _ _ rfl rfl (dep hd 12 (by kernel_rfl))
        refine ⟨wanted_true (g := 12) rfl rfl rfl fg, fun K hK => ?_⟩
        unfold Oper.wp
        go_simp
        exact hK _ _ (Below.refl _ _) rfl
      · obtain rfl := Option.some.inj ho
        have f31 : ac.tmps.getD 31 undef = .func (Fn.func 17) #[] #[] := hF.fact 15 _ _ rfl rfl (dep hd 15 (by kernel_rfl))
        have fg : ac.tmps.getD 28 undef = .bool true := hF.fact 12 _ _ rfl rfl (dep hd 12 (by kernel_rfl))
        refine ⟨wanted_true (g := 12) rfl rfl rfl fg, fun K hK => ?_⟩
        unfold Oper.wp
        go_simp
        refine (num_any 0 (by decide) _).mono ?_
        rintro e w' ⟨rfl, hB⟩
        exact hK _ _ hB rfl
      · obtain rfl := Option.some.inj ho
        have f29 : ac.tmps.getD 29 undef = .agg (B32 (bdig a)) := hF.fact 13 _ _ rfl rfl (dep hd 13 (by kernel_rfl))
        have f30 : ac.tmps.getD 30 undef = .agg (B32 (bdig b)) := hF.fact 14 _ _ rfl rfl (dep hd 14 (by kernel_rfl))
        have f32 : ac.tmps.getD 32 undef = .agg (B32 (bdig 0)) := hF.fact 16 _ _ rfl rfl (dep hd 16 (by kernel_rfl))
        have fg : ac.tmps.getD 28 undef = .bool true := hF.fact 12 _ _ rfl rfl (dep hd 12 (by kernel_rfl))
        refine ⟨wanted_true (g := 12) rfl rfl rfl fg, fun K hK => ?_⟩
        unfold Oper.wp
        go_simp
        refine (F.muladdA ha hb h0 Hp.out _ (F.keep _ _ hTq hF.cls)).mono ?_
        rintro e w' ⟨rfl, hB⟩
        exact hK _ _ hB rfl
      · obtain rfl := Option.some.inj ho
        have f6 : ac.tmps.getD 6 undef = .pointer (some ⟨bC, 0, none⟩) := slot hF 6 (by kernel_rfl)
        have fg : ac.tmps.getD 28 undef = .bool true := hF.fact 12 _ _ rfl rfl (dep hd 12 (by kernel_rfl))
        refine ⟨wanted_true (g := 12) rfl rfl rfl fg, fun K hK => ?_⟩
        exact wp_load_own 22 (.tmp 6) rfl bC f6 (B32 (bdig c)) _ 22 ((hKq.below hF.cls).at bC (B32 (bdig c)) 22 (by simp)) Tryd.underlying22 rfl (B32_info _) (hK _ _ (Below.refl _ _) rfl)
      · obtain rfl := Option.some.inj ho
        have f9 : ac.tmps.getD 9 undef = .func (Fn.func 17) #[] #[] := slot hF 9 (by kernel_rfl)
        have fg : ac.tmps.getD 28 undef = .bool true := hF.fact 12 _ _ rfl rfl (dep hd 12 (by kernel_rfl))
        refine ⟨wanted_true (g := 12) rfl rfl rfl fg, fun K hK => ?_⟩
        unfold Oper.wp
        go_simp
        exact hK _ _ (Below.refl _ _) rfl
      · obtain rfl := Option.some.inj ho
        have f35 : ac.tmps.getD 35 undef = .func (Fn.func 17) #[] #[] := hF.fact 19 _ _ rfl rfl (dep hd 19 (by kernel_rfl))
        have fg : ac.tmps.getD 28 undef = .bool true := hF.fact 12 _ _ rfl rfl (dep hd 12 (by kernel_rfl))
        refine ⟨wanted_true (g := 12) rfl rfl rfl fg, fun K hK => ?_⟩
        unfold Oper.wp
        go_simp
        refine (num_any 0 (by decide) _).mono ?_
        rintro e w' ⟨rfl, hB⟩
        exact hK _ _ hB rfl
      · obtain rfl := Option.some.inj ho
        have f33 : ac.tmps.getD 33 undef = .agg (B32 (bdig p)) := hF.fact 17 _ _ rfl rfl (dep hd 17 (by kernel_rfl))
        have f34 : ac.tmps.getD 34 undef = .agg (B32 (bdig c)) := hF.fact 18 _ _ rfl rfl (dep hd 18 (by kernel_rfl))
        have f36 : ac.tmps.getD 36 undef = .agg (B32 (bdig 0)) := hF.fact 20 _ _ rfl rfl (dep hd 20 (by kernel_rfl))
        have fg : ac.tmps.getD 28 undef = .bool true := hF.fact 12 _ _ rfl rfl (dep hd 12 (by kernel_rfl))
        refine ⟨wanted_true (g := 12) rfl rfl rfl fg, fun K hK => ?_⟩
        unfold Oper.wp
        go_simp
        refine (F.muladdA hp hc h0 Hq.out _ (F.keep _ _ hTq hF.cls)).mono ?_
        rintro e w' ⟨rfl, hB⟩
        exact hK _ _ hB rfl
      · obtain rfl := Option.some.inj ho
        have f4 : ac.tmps.getD 4 undef = .pointer (some ⟨bA, 0, none⟩) := slot hF 4 (by kernel_rfl)
        have fg : ac.tmps.getD 28 undef = .bool true := hF.fact 12 _ _ rfl rfl (dep hd 12 (by kernel_rfl))
        refine ⟨wanted_true (g := 12) rfl rfl rfl fg, fun K hK => ?_⟩
        exact wp_load_own 22 (.tmp 4) rfl bA f4 (B32 (bdig a)) _ 22 ((hKq.below hF.cls).at bA (B32 (bdig a)) 22 (by simp)) Tryd.underlying22 rfl (B32_info _) (hK _ _ (Below.refl _ _) rfl)
      · obtain rfl := Option.some.inj ho
        have f5 : ac.tmps.getD 5 undef = .pointer (some ⟨bB, 0, none⟩) := slot hF 5 (by kernel_rfl)
        have fg : ac.tmps.getD 28 undef = .bool true := hF.fact 12 _ _ rfl rfl (dep hd 12 (by kernel_rfl))
        refine ⟨wanted_true (g := 12) rfl rfl rfl fg, fun K hK => ?_⟩
        exact wp_load_own 22 (.tmp 5) rfl bB f5 (B32 (bdig b)) _ 22 ((hKq.below hF.cls).at bB (B32 (bdig b)) 22 (by simp)) Tryd.underlying22 rfl (B32_info _) (hK _ _ (Below.refl _ _) rfl)
      · obtain rfl := Option.some.inj ho
        have f6 : ac.tmps.getD 6 undef = .pointer (some ⟨bC, 0, none⟩) := slot hF 6 (by kernel_rfl)
        have fg : ac.tmps.getD 28 undef = .bool true := hF.fact 12 _ _ rfl rfl (dep hd 12 (by kernel_rfl))
        refine ⟨wanted_true (g := 12) rfl rfl rfl fg, fun K hK => ?_⟩
        exact wp_load_own 22 (.tmp 6) rfl bC f6 (B32 (bdig c)) _ 22 ((hKq.below hF.cls).at bC (B32 (bdig c)) 22 (by simp)) Tryd.underlying22 rfl (B32_info _) (hK _ _ (Below.refl _ _) rfl)
      · obtain rfl := Option.some.inj ho
        have f9 : ac.tmps.getD 9 undef = .func (Fn.func 17) #[] #[] := slot hF 9 (by kernel_rfl)
        have fg : ac.tmps.getD 28 undef = .bool true := hF.fact 12 _ _ rfl rfl (dep hd 12 (by kernel_rfl))
        refine ⟨wanted_true (g := 12) rfl rfl rfl fg, fun K hK => ?_⟩
        unfold Oper.wp
        go_simp
        exact hK _ _ (Below.refl _ _) rfl
      · obtain rfl := Option.some.inj ho
        have f41 : ac.tmps.getD 41 undef = .func (Fn.func 17) #[] #[] := hF.fact 25 _ _ rfl rfl (dep hd 25 (by kernel_rfl))
        have fg : ac.tmps.getD 28 undef = .bool true := hF.fact 12 _ _ rfl rfl (dep hd 12 (by kernel_rfl))
        refine ⟨wanted_true (g := 12) rfl rfl rfl fg, fun K hK => ?_⟩
        unfold Oper.wp
        go_simp
        refine (num_any 0 (by decide) _).mono ?_
        rintro e w' ⟨rfl, hB⟩
        exact hK _ _ hB rfl
      · obtain rfl := Option.some.inj ho
        have f39 : ac.tmps.getD 39 undef = .agg (B32 (bdig b)) := hF.fact 23 _ _ rfl rfl (dep hd 23 (by kernel_rfl))
        have f40 : ac.tmps.getD 40 undef = .agg (B32 (bdig c)) := hF.fact 24 _ _ rfl rfl (dep hd 24 (by kernel_rfl))
        have f42 : ac.tmps.getD 42 undef = .agg (B32 (bdig 0)) := hF.fact 26 _ _ rfl rfl (dep hd 26 (by kernel_rfl))
        have fg : ac.tmps.getD 28 undef = .bool true := hF.fact 12 _ _ rfl rfl (dep hd 12 (by kernel_rfl))
        refine ⟨wanted_true (g := 12) rfl rfl rfl fg, fun K hK => ?_⟩
        unfold Oper.wp
        go_simp
        refine (F.muladdA hb hc h0 Hr.out _ (F.keep _ _ hTq hF.cls)).mono ?_
        rintro e w' ⟨rfl, hB⟩
        exact hK _ _ hB rfl
      · obtain rfl := Option.some.inj ho
        have f9 : ac.tmps.getD 9 undef = .func (Fn.func 17) #[] #[] := slot hF 9 (by kernel_rfl)
        have fg : ac.tmps.getD 28 undef = .bool true := hF.fact 12 _ _ rfl rfl (dep hd 12 (by kernel_rfl))
        refine ⟨wanted_true (g := 12) rfl rfl rfl fg, fun K hK => ?_⟩
        unfold Oper.wp
        go_simp
        exact hK _ _ (Below.refl _ _) rfl
      · obtain rfl := Option.some.inj ho
        have f44 : ac.tmps.getD 44 undef = .func (Fn.func 17) #[] #[] := hF.fact 28 _ _ rfl rfl (dep hd 28 (by kernel_rfl))
        have fg : ac.tmps.getD 28 undef = .bool true := hF.fact 12 _ _ rfl rfl (dep hd 12 (by kernel_rfl))
        refine ⟨wanted_true (g := 12) rfl rfl rfl fg, fun K hK => ?_⟩
        unfold Oper.wp
        go_simp
        refine (num_any 0 (by decide) _).mono ?_
        rintro e w' ⟨rfl, hB⟩
        exact hK _ _ hB rfl
      · obtain rfl := Option.some.inj ho
        have f38 : ac.tmps.getD 38 undef = .agg (B32 (bdig a)) := hF.fact 22 _ _ rfl rfl (dep hd 22 (by kernel_rfl))
        have f43 : ac.tmps.getD 43 undef = .agg (B32 (bdig r)) := hF.fact 27 _ _ rfl rfl (dep hd 27 (by kernel_rfl))
        have f45 : ac.tmps.getD 45 undef = .agg (B32 (bdig 0)) := hF.fact 29 _ _ rfl rfl (dep hd 29 (by kernel_rfl))
        have fg : ac.tmps.getD 28 undef = .bool true := hF.fact 12 _ _ rfl rfl (dep hd 12 (by kernel_rfl))
        refine ⟨wanted_true (g := 12) rfl rfl rfl fg, fun K hK => ?_⟩
        unfold Oper.wp
        go_simp
        refine (F.muladdA ha hr h0 Hq2.out _ (F.keep _ _ hTq hF.cls)).mono ?_
        rintro e w' ⟨rfl, hB⟩
        exact hK _ _ hB rfl
      · obtain rfl := Option.some.inj ho
        have f37 : ac.tmps.getD 37 undef = .agg (B32 (bdig q)) := hF.fact 21 _ _ rfl rfl (dep hd 21 (by kernel_rfl))
        have f46 : ac.tmps.getD 46 undef = .agg (B32 (bdig q)) := hF.fact 30 _ _ rfl rfl (dep hd 30 (by kernel_rfl))
        have fg : ac.tmps.getD 28 undef = .bool true := hF.fact 12 _ _ rfl rfl (dep hd 12 (by kernel_rfl))
        refine ⟨wanted_true (g := 12) rfl rfl rfl fg, fun K hK => ?_⟩
        unfold Oper.wp
        go_simp
        exact hK _ _ (Below.refl _ _) rfl
      · obtain rfl := Option.some.inj ho
        have f28 : ac.tmps.getD 28 undef = .bool true := hF.fact 12 _ _ rfl rfl (dep hd 12 (by kernel_rfl))
        have f47 : ac.tmps.getD 47 undef = .bool true := hF.fact 31 _ _ rfl rfl (dep hd 31 (by kernel_rfl))
        refine ⟨wanted_free rfl, fun K hK => ?_⟩
        unfold Oper.wp
        go_simp
        exact hK _ _ (Below.refl _ _) rfl
      · obtain rfl := Option.some.inj ho
        have f48 : ac.tmps.getD 48 undef = .bool true := hF.fact 32 _ _ rfl rfl (dep hd 32 (by kernel_rfl))
        refine ⟨wanted_free rfl, fun K hK => ?_⟩
        unfold Oper.wp
        go_simp
        exact hK _ _ (Below.refl _ _) rfl
      · obtain rfl := Option.some.inj ho
        have fg : ac.tmps.getD 49 undef = .bool true := hF.fact 33 _ _ rfl rfl (dep hd 33 (by kernel_rfl))
        refine ⟨wanted_true (g := 33) rfl rfl rfl fg, fun K hK => ?_⟩
        unfold Oper.wp
        go_simp
        refine (swakes_any F.toSclT _ (F.keep _ _ hTq hF.cls)).mono ?_
        rintro e w' ⟨rfl, hB⟩
        exact hK _ _ hB rfl
      · obtain rfl := Option.some.inj ho
        have f49 : ac.tmps.getD 49 undef = .bool true := hF.fact 33 _ _ rfl rfl (dep hd 33 (by kernel_rfl))
        have f50 : ac.tmps.getD 50 undef = .bool true := hF.fact 34 _ _ rfl rfl (dep hd 34 (by kernel_rfl))
        refine ⟨wanted_free rfl, fun K hK => ?_⟩
        unfold Oper.wp
        go_simp
        exact hK _ _ (Below.refl _ _) rfl
      · obtain rfl := Option.some.inj ho
        have f51 : ac.tmps.getD 51 undef = .bool true := hF.fact 35 _ _ rfl rfl (dep hd 35 (by kernel_rfl))
        refine ⟨wanted_free rfl, fun K hK => ?_⟩
        unfold Oper.wp
        go_simp
        exact hK _ _ (Below.refl _ _) rfl
      · cases ho
    · intro L ac wc hL hF
      have fe : ac.tmps.getD 8 undef = .bool true := hF.fact 36 _ 8 rfl rfl (hL 36 (by decide))
      have hb' := (hKq.below hF.cls).2
      go_wp2
      exact bodyPost_ret (results_tmp rfl _ _ _) hF.defers ⟨by rw [fe], hb'⟩
end Go.Proofs.YtofoihebhdpjlaaDoor
