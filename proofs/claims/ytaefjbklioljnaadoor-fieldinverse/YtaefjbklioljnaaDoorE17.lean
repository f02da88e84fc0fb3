/- The walk of the law FieldExact, over the program's functions by their contracts. -/
import Derived.Test.YtaefjbklioljnaaDoorE12
import Derived.Test.YtaefjbklioljnaaDoorE13
import Derived.Test.YtaefjbklioljnaaDoorE14
import Derived.Test.YtaefjbklioljnaaDoorK8
namespace Go.Proofs.YtaefjbklioljnaaDoor
open Go.RowKit
theorem pmod_at {a c : Nat} (ha : a < R256) (hc : a % pp = c) (w : World) : Calls Tryd.prog 14 #[.agg (numA a)] w fun x w' => x = .returned (.agg (numA c)) ∧ Below w.heap.size w w' := by
  rw [← hc]; exact mod_any a ha w
theorem padd_at {a b c : Nat} (ha : a < R256) (hb : b < R256) (hc : (a + b) % pp = c) (w : World) : Calls Tryd.prog 16 #[.agg (numA a), .agg (numA b)] w fun x w' => x = .returned (.agg (numA c)) ∧ Below w.heap.size w w' := by
  rw [← hc]; exact fadd_any a b ha hb w
theorem psub_at {a b c : Nat} (ha : a < R256) (hb : b < R256) (hc : (a % pp + pp - b % pp) % pp = c) (w : World) : Calls Tryd.prog 18 #[.agg (numA a), .agg (numA b)] w fun x w' => x = .returned (.agg (numA c)) ∧ Below w.heap.size w w' := by
  rw [← hc]; exact fsub_any a b ha hb w
def valH (a m : Nat) (ck : Bool) : Nat → Value
  | 0 => .agg (B32 (bdig a))
  | 1 => .agg (numA a)
  | 2 => .agg (numA m)
  | 3 => .agg (B32 (bdig m))
  | 4 => .agg (B32 (bdig a))
  | 5 => .bool ck
  | 6 => .bool ck
  | _ => .bool true

set_option maxRecDepth 100000 in
set_option maxHeartbeats 8000000 in
theorem right_any (a : Nat) (ha : a < R256) (w : World) : Calls Tryd.prog 11 #[.agg (B32 (bdig a))] w fun x w' => x = .returned (.bool (decide (a < pp))) ∧ Below w.heap.size w w' := by
  obtain ⟨m, Hm⟩ : ∃ x, Hid (a % pp = x) := ⟨_, rfl⟩
  have hm : m < R256 := by rw [← Hm.out]; exact lt_of_mod
  obtain ⟨ck, Hck⟩ : ∃ ck, Hid (decide (a < pp) = ck) := ⟨_, rfl⟩
  rw [Hck.out]
  have same : ∀ w, (Op.equalIn 10000 22 (.agg (B32 (bdig m))) (.agg (B32 (bdig a)))).run Tryd.prog w = .ok ck w := fun w => by
    rw [B32_eq m a hm ha w, ← Hck.out, ← Hm.out]
    congr 1
    have := pp_pos
    by_cases h : a < pp
    · rw [decide_eq_true h, decide_eq_true (Nat.mod_eq_of_lt h)]
    · rw [decide_eq_false h, decide_eq_false (fun e => h (by rw [← e]; exact Nat.mod_lt _ this))]
  go_enter Tryd.func11, Tryd.ntmps11
  go_upto_region 1 with fail
  have hKq := (Kp.nil w).alloc (B32 (bdig a)) 22
  generalize w.alloc (.cells (B32 (bdig a)) 22) = W at *
  obtain ⟨bA, HA⟩ : ∃ bA, Hid (w.heap.size = bA) := ⟨_, rfl⟩
  rw [HA.out] at hKq ⊢
  refine wp_region_stable 9 (by kernel_rfl) (by kernel_rfl) (by rfl) (fun i v _ => v = valH a m ck i) (fun _ _ _ _ _ h => h) ?_ ?_
  · intro L ac wc i o hF ho hd
    rcases i with _ | _ | _ | _ | _ | _ | _ | i
    · obtain rfl := Option.some.inj ho
      have f1 : ac.tmps.getD 1 undef = .pointer (some ⟨bA, 0, none⟩) := slot hF 1 (by kernel_rfl)
      refine ⟨wanted_free rfl, fun K hK => ?_⟩
      exact wp_load_own 22 (.tmp 1) rfl bA f1 (B32 (bdig a)) _ 22 ((hKq.below hF.cls).at bA (B32 (bdig a)) 22 (by simp)) Tryd.underlying22 rfl (B32_info _) (hK _ _ (Below.refl _ _) rfl)
    · obtain rfl := Option.some.inj ho
      have f3 : ac.tmps.getD 3 undef = .agg (B32 (bdig a)) := hF.fact 0 _ _ rfl rfl (dep hd 0 (by kernel_rfl))
      refine ⟨wanted_free rfl, fun K hK => ?_⟩
      unfold Oper.wp
      go_simp
      refine (of_any a ha _).mono ?_
      rintro e w' ⟨rfl, hB⟩
      exact hK _ _ hB rfl
    · obtain rfl := Option.some.inj ho
      have f4 : ac.tmps.getD 4 undef = .agg (numA a) := hF.fact 1 _ _ rfl rfl (dep hd 1 (by kernel_rfl))
      refine ⟨wanted_free rfl, fun K hK => ?_⟩
      unfold Oper.wp
      go_simp
      refine (pmod_at ha Hm.out _).mono ?_
      rintro e w' ⟨rfl, hB⟩
      exact hK _ _ hB rfl
    · obtain rfl := Option.some.inj ho
      have f5 : ac.tmps.getD 5 undef = .agg (numA m) := hF.fact 2 _ _ rfl rfl (dep hd 2 (by kernel_rfl))
      refine ⟨wanted_free rfl, fun K hK => ?_⟩
      unfold Oper.wp
      go_simp
      refine (bytesOf_any m _).mono ?_
      rintro e w' ⟨rfl, hB⟩
      exact hK _ _ hB rfl
    · obtain rfl := Option.some.inj ho
      have f1 : ac.tmps.getD 1 undef = .pointer (some ⟨bA, 0, none⟩) := slot hF 1 (by kernel_rfl)
      refine ⟨wanted_free rfl, fun K hK => ?_⟩
      exact wp_load_own 22 (.tmp 1) rfl bA f1 (B32 (bdig a)) _ 22 ((hKq.below hF.cls).at bA (B32 (bdig a)) 22 (by simp)) Tryd.underlying22 rfl (B32_info _) (hK _ _ (Below.refl _ _) rfl)
    · obtain rfl := Option.some.inj ho
      have f6 : ac.tmps.getD 6 undef = .agg (B32 (bdig m)) := hF.fact 3 _ _ rfl rfl (dep hd 3 (by kernel_rfl))
      have f7 : ac.tmps.getD 7 undef = .agg (B32 (bdig a)) := hF.fact 4 _ _ rfl rfl (dep hd 4 (by kernel_rfl))
      refine ⟨wanted_free rfl, fun K hK => ?_⟩
      unfold Oper.wp
      go_simp
      exact hK _ _ (Below.refl _ _) rfl
    · obtain rfl := Option.some.inj ho
      have f8 : ac.tmps.getD 8 undef = .bool ck := hF.fact 5 _ _ rfl rfl (dep hd 5 (by kernel_rfl))
      refine ⟨wanted_free rfl, fun K hK => ?_⟩
      unfold Oper.wp
      go_simp
      exact hK _ _ (Below.refl _ _) rfl
    · cases ho
  · intro L ac wc hL hF
    have f2 : ac.tmps.getD 2 undef = .bool ck := hF.fact 6 _ 2 rfl rfl (hL 6 (by decide))
    have hb' := (hKq.below hF.cls).2
    go_wp2
    exact bodyPost_ret (results_tmp rfl _ _ _) hF.defers ⟨by rw [f2], hb'⟩
def factE (a b : Nat) : Nat → Value → Prop
  | 0, v => v = .agg (B32 (bdig a))
  | 1, v => v = .agg (numA a)
  | 2, v => v = .agg (B32 (bdig b))
  | 3, v => v = .agg (numA b)
  | _, v => ∃ g, v = .pointer (some ⟨g, 0, none⟩)
def valE (a b s p m mb dd : Nat) (ck : Bool) : Nat → Value
  | 0 => .agg (B32 (bdig a))
  | 1 => .bool ck
  | 2 => .agg (B32 (bdig a))
  | 3 => .bool ck
  | 6 => .agg (B32 (bdig a))
  | 7 => .agg (B32 (bdig m))
  | 8 => .agg (numA a)
  | 9 => .agg (numA m)
  | 10 => .agg (B32 (bdig m))
  | 14 => .agg (B32 (bdig a))
  | 15 => .agg (B32 (bdig b))
  | 16 => .agg (B32 (bdig s))
  | 17 => .agg (numA a)
  | 18 => .agg (numA b)
  | 19 => .agg (numA s)
  | 20 => .agg (B32 (bdig s))
  | 24 => .agg (B32 (bdig a))
  | 25 => .agg (B32 (bdig b))
  | 26 => .agg (B32 (bdig dd))
  | 27 => .agg (numA a)
  | 28 => .agg (numA b)
  | 29 => .agg (numA dd)
  | 30 => .agg (B32 (bdig dd))
  | 34 => .agg (B32 (bdig a))
  | 35 => .agg (B32 (bdig b))
  | 36 => .agg (B32 (bdig p))
  | 37 => .agg (numA a)
  | 38 => .agg (numA m)
  | 39 => .agg (numA b)
  | 40 => .agg (numA mb)
  | 41 => .agg (numA p)
  | 42 => .agg (B32 (bdig p))
  | _ => .bool true

set_option maxRecDepth 100000 in
set_option maxHeartbeats 16000000 in
theorem exact_any {T : World → Prop} (F : Fld T) (a b : Nat) (ha : a < R256) (hb : b < R256) (w : World) (hT : T w) : Calls Tryd.prog 3 #[.agg (B32 (bdig a)), .agg (B32 (bdig b))] w fun x w' => x = .returned (.bool true) ∧ Below w.heap.size w w' := by
  have hz := (zero_of_info zeroNum).1
  obtain ⟨s, Hs⟩ : ∃ x, Hid ((a + b) % pp = x) := ⟨_, rfl⟩
  have hls : s < pp := by rw [← Hs.out]; exact Nat.mod_lt _ pp_pos
  have hs : s < R256 := Nat.lt_trans hls (by decide)
  obtain ⟨p, Hp⟩ : ∃ x, Hid (a * b % pp = x) := ⟨_, rfl⟩
  have hlp : p < pp := by rw [← Hp.out]; exact Nat.mod_lt _ pp_pos
  have hp : p < R256 := Nat.lt_trans hlp (by decide)
  obtain ⟨m, Hm⟩ : ∃ x, Hid (a % pp = x) := ⟨_, rfl⟩
  have hlm : m < pp := by rw [← Hm.out]; exact Nat.mod_lt _ pp_pos
  have hm : m < R256 := Nat.lt_trans hlm (by decide)
  obtain ⟨mb, Hmb⟩ : ∃ x, Hid (b % pp = x) := ⟨_, rfl⟩
  have hlmb : mb < pp := by rw [← Hmb.out]; exact Nat.mod_lt _ pp_pos
  have hmb : mb < R256 := Nat.lt_trans hlmb (by decide)
  obtain ⟨dd, Hd⟩ : ∃ x, Hid ((a % pp + pp - b % pp) % pp = x) := ⟨_, rfl⟩
  have hldd : dd < pp := by rw [← Hd.out]; exact Nat.mod_lt _ pp_pos
  have hdd : dd < R256 := Nat.lt_trans hldd (by decide)
  have Hp3 : Hid (m * mb % pp = p) := by show _ = _; rw [← Hp.out, ← Hm.out, ← Hmb.out, ← Nat.mul_mod]
  obtain ⟨ck, Hck⟩ : ∃ ck, Hid (decide (a < pp) = ck) := ⟨_, rfl⟩
  have hckk : (ck == ck) = true := by simp
  have same_s := B32_same s hs
  have same_p := B32_same p hp
  have same_m := B32_same m hm
  have same_dd := B32_same dd hdd
  go_enter Tryd.func3, Tryd.ntmps3
  go_upto_region 1 with fail
  have hK0 := ((Kp.nil w).alloc (B32 (bdig a)) 22).alloc (B32 (bdig b)) 22
  rw [World.size_alloc] at hK0
  generalize (w.alloc (.cells (B32 (bdig a)) 22)).alloc (.cells (B32 (bdig b)) 22) = W at *
  obtain ⟨bA, HA⟩ : ∃ bA, Hid (w.heap.size = bA) := ⟨_, rfl⟩
  obtain ⟨bB, HB⟩ : ∃ bB, Hid (bA + 1 = bB) := ⟨_, rfl⟩
  rw [HA.out, HB.out] at hK0 ⊢
  refine wp_region_told 59 (by kernel_rfl) (by kernel_rfl) (by rfl) (factE a b) (fun L vs => J2 [(bB, B32 (bdig b), 22), (bA, B32 (bdig a), 22)] w (numA 0) (numA a) (numA b) 25 (L 4) (L 6) (vs 4) (L 5) (L 7) (vs 5)) (fun _ => J2.start hK0) ?_ ?_
  · intro L vs ac wc i o hF hLi ho hd K hK
    rcases i with _ | _ | _ | _ | _ | _ | _ | _ | i
    · have ho' := ho
      obtain rfl := Option.some.inj ho
      have f2 : ac.tmps.getD 2 undef = .pointer (some ⟨bA, 0, none⟩) := slott hF 0 hLi 2 (by kernel_rfl)
      refine step_do ho' (wanted_free rfl) ?_
      exact wp_load_own 22 (.tmp 2) rfl bA f2 (B32 (bdig a)) _ 22 (hF.j.kp.at bA (B32 (bdig a)) 22 (by simp)) Tryd.underlying22 rfl (B32_info _) (hK _ _ (.inr rfl) hF.j)
    · have ho' := ho
      obtain rfl := Option.some.inj ho
      have f7 : ac.tmps.getD 7 undef = .agg (B32 (bdig a)) := (factt hF hd 0 rfl rfl (by kernel_rfl)).1.trans (factt hF hd 0 rfl rfl (by kernel_rfl)).2
      refine step_do ho' (wanted_free rfl) ?_
      unfold Oper.wp
      go_simp
      refine (of_any a ha _).mono ?_
      rintro e w' ⟨rfl, hB⟩
      exact hK _ _ (.inr rfl) (hF.j.below hB)
    · have ho' := ho
      obtain rfl := Option.some.inj ho
      have f3 : ac.tmps.getD 3 undef = .pointer (some ⟨bB, 0, none⟩) := slott hF 2 hLi 3 (by kernel_rfl)
      refine step_do ho' (wanted_free rfl) ?_
      exact wp_load_own 22 (.tmp 3) rfl bB f3 (B32 (bdig b)) _ 22 (hF.j.kp.at bB (B32 (bdig b)) 22 (by simp)) Tryd.underlying22 rfl (B32_info _) (hK _ _ (.inr rfl) hF.j)
    · have ho' := ho
      obtain rfl := Option.some.inj ho
      have f9 : ac.tmps.getD 9 undef = .agg (B32 (bdig b)) := (factt hF hd 2 rfl rfl (by kernel_rfl)).1.trans (factt hF hd 2 rfl rfl (by kernel_rfl)).2
      refine step_do ho' (wanted_free rfl) ?_
      unfold Oper.wp
      go_simp
      refine (of_any b hb _).mono ?_
      rintro e w' ⟨rfl, hB⟩
      exact hK _ _ (.inr rfl) (hF.j.below hB)
    · have ho' := ho
      obtain rfl := Option.some.inj ho
      refine step_do ho' (wanted_free rfl) ?_
      have h6 := notyett hF 4 hLi 6 rfl (by kernel_rfl)
      unfold Oper.wp
      go_simp
      rw [← zero_num]
      exact hK _ _ (.inr ⟨_, rfl⟩) (hF.j.alloc h6)
    · have ho' := ho
      obtain rfl := Option.some.inj ho
      refine step_do ho' (wanted_free rfl) ?_
      have h7 := notyett hF 5 hLi 7 rfl (by kernel_rfl)
      unfold Oper.wp
      go_simp
      rw [← zero_num]
      exact hK _ _ (.inr ⟨_, rfl⟩) (hF.j.swap.alloc h7).swap
    · have ho' := ho
      obtain rfl := Option.some.inj ho
      have f8 : ac.tmps.getD 8 undef = .agg (numA a) := (factt hF hd 1 rfl rfl (by kernel_rfl)).1.trans (factt hF hd 1 rfl rfl (by kernel_rfl)).2
      refine step_do ho' (wanted_free rfl) ?_
      obtain ⟨f5, g, hg⟩ := factt hF hd 4 rfl rfl (by kernel_rfl)
      have h4 := dep hd 4 (by kernel_rfl)
      have hj := hF.j
      rw [hg] at f5
      obtain ⟨_, _, ow⟩ := hj.at h4 hg
      rw [hLi] at ow
      refine wp_store_own 25 (.tmp 5) (.tmp 8) rfl g (numA a) f5 f8 ow (numA_sizes a 0) (numA_info a) (numA_one a) rfl ?_
      exact hK undef _ (.inl rfl) (hj.store h4 hg hLi (numA_sizes a 0))
    · have ho' := ho
      obtain rfl := Option.some.inj ho
      have f10 : ac.tmps.getD 10 undef = .agg (numA b) := (factt hF hd 3 rfl rfl (by kernel_rfl)).1.trans (factt hF hd 3 rfl rfl (by kernel_rfl)).2
      refine step_do ho' (wanted_free rfl) ?_
      obtain ⟨f6, g, hg⟩ := factt hF hd 5 rfl rfl (by kernel_rfl)
      have h5 := dep hd 5 (by kernel_rfl)
      have hj := hF.j.swap
      rw [hg] at f6
      obtain ⟨_, _, ow⟩ := hj.at h5 hg
      rw [hLi] at ow
      refine wp_store_own 25 (.tmp 6) (.tmp 10) rfl g (numA b) f6 f10 ow (numA_sizes b 0) (numA_info b) (numA_one b) rfl ?_
      exact hK undef _ (.inl rfl) (hj.store h5 hg hLi (numA_sizes b 0)).swap
    · cases ho
  · intro L vs wq hL hJ hf
    obtain ⟨bX, hg⟩ := hf 4 _ _ rfl rfl
    obtain ⟨bY, hg'⟩ := hf 5 _ _ rfl rfl
    have hKq := hJ.done (hL 4 (by decide)) hg (hL 6 (by decide)) (hL 5 (by decide)) hg' (hL 7 (by decide))
    have q0 : vs 0 = _ := hf 0 _ _ rfl rfl
    have q1 : vs 1 = _ := hf 1 _ _ rfl rfl
    have q2 : vs 2 = _ := hf 2 _ _ rfl rfl
    have q3 : vs 3 = _ := hf 3 _ _ rfl rfl
    simp only [putAll, Nat.zero_add, Nat.reduceAdd, q0, q1, q2, q3, hg, hg', Act.put, List.setIfInBounds_toArray, List.set_cons_succ, List.set_cons_zero]
    clear q0 q1 q2 q3 hg hg' hf hJ hL hK0
    have hTq := F.keep _ _ hT hKq.2
    go_upto_region 2 with fail
    refine wp_region_stable 59 (by kernel_rfl) (by kernel_rfl) (by rfl) (fun i v _ => v = valE a b s p m mb dd ck i) (fun _ _ _ _ _ h => h) ?_ ?_
    · intro L ac wc i o hF ho hd
      rcases i with _ | _ | _ | _ | _ | _ | _ | _ | _ | _ | _ | _ | _ | _ | _ | _ | _ | _ | _ | _ | _ | _ | _ | _ | _ | _ | _ | _ | _ | _ | _ | _ | _ | _ | _ | _ | _ | _ | _ | _ | _ | _ | _ | _ | _ | _ | _ | _ | _ | i
      · obtain rfl := Option.some.inj ho
        have f2 : ac.tmps.getD 2 undef = .pointer (some ⟨bA, 0, none⟩) := slot hF 2 (by kernel_rfl)
        refine ⟨wanted_free rfl, fun K hK => ?_⟩
        exact wp_load_own 22 (.tmp 2) rfl bA f2 (B32 (bdig a)) _ 22 ((hKq.below hF.cls).at bA (B32 (bdig a)) 22 (by simp)) Tryd.underlying22 rfl (B32_info _) (hK _ _ (Below.refl _ _) rfl)
      · obtain rfl := Option.some.inj ho
        have f11 : ac.tmps.getD 11 undef = .agg (B32 (bdig a)) := hF.fact 0 _ _ rfl rfl (dep hd 0 (by kernel_rfl))
        refine ⟨wanted_free rfl, fun K hK => ?_⟩
        unfold Oper.wp
        go_simp
        refine (F.check a ha _ (F.keep _ _ hTq hF.cls)).mono ?_
        rintro e w' ⟨rfl, hB⟩
        rw [Hck.out]
        exact hK _ _ hB rfl
      · obtain rfl := Option.some.inj ho
        have f2 : ac.tmps.getD 2 undef = .pointer (some ⟨bA, 0, none⟩) := slot hF 2 (by kernel_rfl)
        refine ⟨wanted_free rfl, fun K hK => ?_⟩
        exact wp_load_own 22 (.tmp 2) rfl bA f2 (B32 (bdig a)) _ 22 ((hKq.below hF.cls).at bA (B32 (bdig a)) 22 (by simp)) Tryd.underlying22 rfl (B32_info _) (hK _ _ (Below.refl _ _) rfl)
      · obtain rfl := Option.some.inj ho
        have f13 : ac.tmps.getD 13 undef = .agg (B32 (bdig a)) := hF.fact 2 _ _ rfl rfl (dep hd 2 (by kernel_rfl))
        refine ⟨wanted_free rfl, fun K hK => ?_⟩
        unfold Oper.wp
        go_simp
        refine (right_any a ha _).mono ?_
        rintro e w' ⟨rfl, hB⟩
        rw [Hck.out]
        exact hK _ _ hB rfl
      · obtain rfl := Option.some.inj ho
        have f12 : ac.tmps.getD 12 undef = .bool ck := hF.fact 1 _ _ rfl rfl (dep hd 1 (by kernel_rfl))
        have f14 : ac.tmps.getD 14 undef = .bool ck := hF.fact 3 _ _ rfl rfl (dep hd 3 (by kernel_rfl))
        refine ⟨wanted_free rfl, fun K hK => ?_⟩
        unfold Oper.wp
        go_simp
        exact hK _ _ (Below.refl _ _) rfl
      · obtain rfl := Option.some.inj ho
        have f15 : ac.tmps.getD 15 undef = .bool true := hF.fact 4 _ _ rfl rfl (dep hd 4 (by kernel_rfl))
        refine ⟨wanted_free rfl, fun K hK => ?_⟩
        unfold Oper.wp
        go_simp
        exact hK _ _ (Below.refl _ _) rfl
      · obtain rfl := Option.some.inj ho
        have f2 : ac.tmps.getD 2 undef = .pointer (some ⟨bA, 0, none⟩) := slot hF 2 (by kernel_rfl)
        have fg : ac.tmps.getD 16 undef = .bool true := hF.fact 5 _ _ rfl rfl (dep hd 5 (by kernel_rfl))
        refine ⟨wanted_true (g := 5) rfl rfl rfl fg, fun K hK => ?_⟩
        exact wp_load_own 22 (.tmp 2) rfl bA f2 (B32 (bdig a)) _ 22 ((hKq.below hF.cls).at bA (B32 (bdig a)) 22 (by simp)) Tryd.underlying22 rfl (B32_info _) (hK _ _ (Below.refl _ _) rfl)
      · obtain rfl := Option.some.inj ho
        have f17 : ac.tmps.getD 17 undef = .agg (B32 (bdig a)) := hF.fact 6 _ _ rfl rfl (dep hd 6 (by kernel_rfl))
        have fg : ac.tmps.getD 16 undef = .bool true := hF.fact 5 _ _ rfl rfl (dep hd 5 (by kernel_rfl))
        refine ⟨wanted_true (g := 5) rfl rfl rfl fg, fun K hK => ?_⟩
        unfold Oper.wp
        go_simp
        refine (F.modA ha Hm.out _ (F.keep _ _ hTq hF.cls)).mono ?_
        rintro e w' ⟨rfl, hB⟩
        exact hK _ _ hB rfl
      · obtain rfl := Option.some.inj ho
        have f5 : ac.tmps.getD 5 undef = .pointer (some ⟨bX, 0, none⟩) := slot hF 5 (by kernel_rfl)
        have fg : ac.tmps.getD 16 undef = .bool true := hF.fact 5 _ _ rfl rfl (dep hd 5 (by kernel_rfl))
        refine ⟨wanted_true (g := 5) rfl rfl rfl fg, fun K hK => ?_⟩
        exact wp_load_own 25 (.tmp 5) rfl bX f5 (numA a) _ 25 ((hKq.below hF.cls).at bX (numA a) 25 (by simp)) Tryd.underlying25 rfl (numA_info a) (hK _ _ (Below.refl _ _) rfl)
      · obtain rfl := Option.some.inj ho
        have f19 : ac.tmps.getD 19 undef = .agg (numA a) := hF.fact 8 _ _ rfl rfl (dep hd 8 (by kernel_rfl))
        have fg : ac.tmps.getD 16 undef = .bool true := hF.fact 5 _ _ rfl rfl (dep hd 5 (by kernel_rfl))
        refine ⟨wanted_true (g := 5) rfl rfl rfl fg, fun K hK => ?_⟩
        unfold Oper.wp
        go_simp
        refine (pmod_at ha Hm.out _).mono ?_
        rintro e w' ⟨rfl, hB⟩
        exact hK _ _ hB rfl
      · obtain rfl := Option.some.inj ho
        have f20 : ac.tmps.getD 20 undef = .agg (numA m) := hF.fact 9 _ _ rfl rfl (dep hd 9 (by kernel_rfl))
        have fg : ac.tmps.getD 16 undef = .bool true := hF.fact 5 _ _ rfl rfl (dep hd 5 (by kernel_rfl))
        refine ⟨wanted_true (g := 5) rfl rfl rfl fg, fun K hK => ?_⟩
        unfold Oper.wp
        go_simp
        refine (bytesOf_any m _).mono ?_
        rintro e w' ⟨rfl, hB⟩
        exact hK _ _ hB rfl
      · obtain rfl := Option.some.inj ho
        have f18 : ac.tmps.getD 18 undef = .agg (B32 (bdig m)) := hF.fact 7 _ _ rfl rfl (dep hd 7 (by kernel_rfl))
        have f21 : ac.tmps.getD 21 undef = .agg (B32 (bdig m)) := hF.fact 10 _ _ rfl rfl (dep hd 10 (by kernel_rfl))
        have fg : ac.tmps.getD 16 undef = .bool true := hF.fact 5 _ _ rfl rfl (dep hd 5 (by kernel_rfl))
        refine ⟨wanted_true (g := 5) rfl rfl rfl fg, fun K hK => ?_⟩
        unfold Oper.wp
        go_simp
        exact hK _ _ (Below.refl _ _) rfl
      · obtain rfl := Option.some.inj ho
        have f16 : ac.tmps.getD 16 undef = .bool true := hF.fact 5 _ _ rfl rfl (dep hd 5 (by kernel_rfl))
        have f22 : ac.tmps.getD 22 undef = .bool true := hF.fact 11 _ _ rfl rfl (dep hd 11 (by kernel_rfl))
        refine ⟨wanted_free rfl, fun K hK => ?_⟩
        unfold Oper.wp
        go_simp
        exact hK _ _ (Below.refl _ _) rfl
      · obtain rfl := Option.some.inj ho
        have f23 : ac.tmps.getD 23 undef = .bool true := hF.fact 12 _ _ rfl rfl (dep hd 12 (by kernel_rfl))
        refine ⟨wanted_free rfl, fun K hK => ?_⟩
        unfold Oper.wp
        go_simp
        exact hK _ _ (Below.refl _ _) rfl
      · obtain rfl := Option.some.inj ho
        have f2 : ac.tmps.getD 2 undef = .pointer (some ⟨bA, 0, none⟩) := slot hF 2 (by kernel_rfl)
        have fg : ac.tmps.getD 24 undef = .bool true := hF.fact 13 _ _ rfl rfl (dep hd 13 (by kernel_rfl))
        refine ⟨wanted_true (g := 13) rfl rfl rfl fg, fun K hK => ?_⟩
        exact wp_load_own 22 (.tmp 2) rfl bA f2 (B32 (bdig a)) _ 22 ((hKq.below hF.cls).at bA (B32 (bdig a)) 22 (by simp)) Tryd.underlying22 rfl (B32_info _) (hK _ _ (Below.refl _ _) rfl)
      · obtain rfl := Option.some.inj ho
        have f3 : ac.tmps.getD 3 undef = .pointer (some ⟨bB, 0, none⟩) := slot hF 3 (by kernel_rfl)
        have fg : ac.tmps.getD 24 undef = .bool true := hF.fact 13 _ _ rfl rfl (dep hd 13 (by kernel_rfl))
        refine ⟨wanted_true (g := 13) rfl rfl rfl fg, fun K hK => ?_⟩
        exact wp_load_own 22 (.tmp 3) rfl bB f3 (B32 (bdig b)) _ 22 ((hKq.below hF.cls).at bB (B32 (bdig b)) 22 (by simp)) Tryd.underlying22 rfl (B32_info _) (hK _ _ (Below.refl _ _) rfl)
      · obtain rfl := Option.some.inj ho
        have f25 : ac.tmps.getD 25 undef = .agg (B32 (bdig a)) := hF.fact 14 _ _ rfl rfl (dep hd 14 (by kernel_rfl))
        have f26 : ac.tmps.getD 26 undef = .agg (B32 (bdig b)) := hF.fact 15 _ _ rfl rfl (dep hd 15 (by kernel_rfl))
        have fg : ac.tmps.getD 24 undef = .bool true := hF.fact 13 _ _ rfl rfl (dep hd 13 (by kernel_rfl))
        refine ⟨wanted_true (g := 13) rfl rfl rfl fg, fun K hK => ?_⟩
        unfold Oper.wp
        go_simp
        refine (F.addA ha hb Hs.out _ (F.keep _ _ hTq hF.cls)).mono ?_
        rintro e w' ⟨rfl, hB⟩
        exact hK _ _ hB rfl
      · obtain rfl := Option.some.inj ho
        have f5 : ac.tmps.getD 5 undef = .pointer (some ⟨bX, 0, none⟩) := slot hF 5 (by kernel_rfl)
        have fg : ac.tmps.getD 24 undef = .bool true := hF.fact 13 _ _ rfl rfl (dep hd 13 (by kernel_rfl))
        refine ⟨wanted_true (g := 13) rfl rfl rfl fg, fun K hK => ?_⟩
        exact wp_load_own 25 (.tmp 5) rfl bX f5 (numA a) _ 25 ((hKq.below hF.cls).at bX (numA a) 25 (by simp)) Tryd.underlying25 rfl (numA_info a) (hK _ _ (Below.refl _ _) rfl)
      · obtain rfl := Option.some.inj ho
        have f6 : ac.tmps.getD 6 undef = .pointer (some ⟨bY, 0, none⟩) := slot hF 6 (by kernel_rfl)
        have fg : ac.tmps.getD 24 undef = .bool true := hF.fact 13 _ _ rfl rfl (dep hd 13 (by kernel_rfl))
        refine ⟨wanted_true (g := 13) rfl rfl rfl fg, fun K hK => ?_⟩
        exact wp_load_own 25 (.tmp 6) rfl bY f6 (numA b) _ 25 ((hKq.below hF.cls).at bY (numA b) 25 (by simp)) Tryd.underlying25 rfl (numA_info b) (hK _ _ (Below.refl _ _) rfl)
      · obtain rfl := Option.some.inj ho
        have f28 : ac.tmps.getD 28 undef = .agg (numA a) := hF.fact 17 _ _ rfl rfl (dep hd 17 (by kernel_rfl))
        have f29 : ac.tmps.getD 29 undef = .agg (numA b) := hF.fact 18 _ _ rfl rfl (dep hd 18 (by kernel_rfl))
        have fg : ac.tmps.getD 24 undef = .bool true := hF.fact 13 _ _ rfl rfl (dep hd 13 (by kernel_rfl))
        refine ⟨wanted_true (g := 13) rfl rfl rfl fg, fun K hK => ?_⟩
        unfold Oper.wp
        go_simp
        refine (padd_at ha hb Hs.out _).mono ?_
        rintro e w' ⟨rfl, hB⟩
        exact hK _ _ hB rfl
      · obtain rfl := Option.some.inj ho
        have f30 : ac.tmps.getD 30 undef = .agg (numA s) := hF.fact 19 _ _ rfl rfl (dep hd 19 (by kernel_rfl))
        have fg : ac.tmps.getD 24 undef = .bool true := hF.fact 13 _ _ rfl rfl (dep hd 13 (by kernel_rfl))
        refine ⟨wanted_true (g := 13) rfl rfl rfl fg, fun K hK => ?_⟩
        unfold Oper.wp
        go_simp
        refine (bytesOf_any s _).mono ?_
        rintro e w' ⟨rfl, hB⟩
        exact hK _ _ hB rfl
      · obtain rfl := Option.some.inj ho
        have f27 : ac.tmps.getD 27 undef = .agg (B32 (bdig s)) := hF.fact 16 _ _ rfl rfl (dep hd 16 (by kernel_rfl))
        have f31 : ac.tmps.getD 31 undef = .agg (B32 (bdig s)) := hF.fact 20 _ _ rfl rfl (dep hd 20 (by kernel_rfl))
        have fg : ac.tmps.getD 24 undef = .bool true := hF.fact 13 _ _ rfl rfl (dep hd 13 (by kernel_rfl))
        refine ⟨wanted_true (g := 13) rfl rfl rfl fg, fun K hK => ?_⟩
        unfold Oper.wp
        go_simp
        exact hK _ _ (Below.refl _ _) rfl
      · obtain rfl := Option.some.inj ho
        have f24 : ac.tmps.getD 24 undef = .bool true := hF.fact 13 _ _ rfl rfl (dep hd 13 (by kernel_rfl))
        have f32 : ac.tmps.getD 32 undef = .bool true := hF.fact 21 _ _ rfl rfl (dep hd 21 (by kernel_rfl))
        refine ⟨wanted_free rfl, fun K hK => ?_⟩
        unfold Oper.wp
        go_simp
        exact hK _ _ (Below.refl _ _) rfl
      · obtain rfl := Option.some.inj ho
        have f33 : ac.tmps.getD 33 undef = .bool true := hF.fact 22 _ _ rfl rfl (dep hd 22 (by kernel_rfl))
        refine ⟨wanted_free rfl, fun K hK => ?_⟩
        unfold Oper.wp
        go_simp
        exact hK _ _ (Below.refl _ _) rfl
      · obtain rfl := Option.some.inj ho
        have f2 : ac.tmps.getD 2 undef = .pointer (some ⟨bA, 0, none⟩) := slot hF 2 (by kernel_rfl)
        have fg : ac.tmps.getD 34 undef = .bool true := hF.fact 23 _ _ rfl rfl (dep hd 23 (by kernel_rfl))
        refine ⟨wanted_true (g := 23) rfl rfl rfl fg, fun K hK => ?_⟩
        exact wp_load_own 22 (.tmp 2) rfl bA f2 (B32 (bdig a)) _ 22 ((hKq.below hF.cls).at bA (B32 (bdig a)) 22 (by simp)) Tryd.underlying22 rfl (B32_info _) (hK _ _ (Below.refl _ _) rfl)
      · obtain rfl := Option.some.inj ho
        have f3 : ac.tmps.getD 3 undef = .pointer (some ⟨bB, 0, none⟩) := slot hF 3 (by kernel_rfl)
        have fg : ac.tmps.getD 34 undef = .bool true := hF.fact 23 _ _ rfl rfl (dep hd 23 (by kernel_rfl))
        refine ⟨wanted_true (g := 23) rfl rfl rfl fg, fun K hK => ?_⟩
        exact wp_load_own 22 (.tmp 3) rfl bB f3 (B32 (bdig b)) _ 22 ((hKq.below hF.cls).at bB (B32 (bdig b)) 22 (by simp)) Tryd.underlying22 rfl (B32_info _) (hK _ _ (Below.refl _ _) rfl)
      · obtain rfl := Option.some.inj ho
        have f35 : ac.tmps.getD 35 undef = .agg (B32 (bdig a)) := hF.fact 24 _ _ rfl rfl (dep hd 24 (by kernel_rfl))
        have f36 : ac.tmps.getD 36 undef = .agg (B32 (bdig b)) := hF.fact 25 _ _ rfl rfl (dep hd 25 (by kernel_rfl))
        have fg : ac.tmps.getD 34 undef = .bool true := hF.fact 23 _ _ rfl rfl (dep hd 23 (by kernel_rfl))
        refine ⟨wanted_true (g := 23) rfl rfl rfl fg, fun K hK => ?_⟩
        unfold Oper.wp
        go_simp
        refine (F.subA ha hb Hd.out _ (F.keep _ _ hTq hF.cls)).mono ?_
        rintro e w' ⟨rfl, hB⟩
        exact hK _ _ hB rfl
      · obtain rfl := Option.some.inj ho
        have f5 : ac.tmps.getD 5 undef = .pointer (some ⟨bX, 0, none⟩) := slot hF 5 (by kernel_rfl)
        have fg : ac.tmps.getD 34 undef = .bool true := hF.fact 23 _ _ rfl rfl (dep hd 23 (by kernel_rfl))
        refine ⟨wanted_true (g := 23) rfl rfl rfl fg, fun K hK => ?_⟩
        exact wp_load_own 25 (.tmp 5) rfl bX f5 (numA a) _ 25 ((hKq.below hF.cls).at bX (numA a) 25 (by simp)) Tryd.underlying25 rfl (numA_info a) (hK _ _ (Below.refl _ _) rfl)
      · obtain rfl := Option.some.inj ho
        have f6 : ac.tmps.getD 6 undef = .pointer (some ⟨bY, 0, none⟩) := slot hF 6 (by kernel_rfl)
        have fg : ac.tmps.getD 34 undef = .bool true := hF.fact 23 _ _ rfl rfl (dep hd 23 (by kernel_rfl))
        refine ⟨wanted_true (g := 23) rfl rfl rfl fg, fun K hK => ?_⟩
        exact wp_load_own 25 (.tmp 6) rfl bY f6 (numA b) _ 25 ((hKq.below hF.cls).at bY (numA b) 25 (by simp)) Tryd.underlying25 rfl (numA_info b) (hK _ _ (Below.refl _ _) rfl)
      · obtain rfl := Option.some.inj ho
        have f38 : ac.tmps.getD 38 undef = .agg (numA a) := hF.fact 27 _ _ rfl rfl (dep hd 27 (by kernel_rfl))
        have f39 : ac.tmps.getD 39 undef = .agg (numA b) := hF.fact 28 _ _ rfl rfl (dep hd 28 (by kernel_rfl))
        have fg : ac.tmps.getD 34 undef = .bool true := hF.fact 23 _ _ rfl rfl (dep hd 23 (by kernel_rfl))
        refine ⟨wanted_true (g := 23) rfl rfl rfl fg, fun K hK => ?_⟩
        unfold Oper.wp
        go_simp
        refine (psub_at ha hb Hd.out _).mono ?_
        rintro e w' ⟨rfl, hB⟩
        exact hK _ _ hB rfl
      · obtain rfl := Option.some.inj ho
        have f40 : ac.tmps.getD 40 undef = .agg (numA dd) := hF.fact 29 _ _ rfl rfl (dep hd 29 (by kernel_rfl))
        have fg : ac.tmps.getD 34 undef = .bool true := hF.fact 23 _ _ rfl rfl (dep hd 23 (by kernel_rfl))
        refine ⟨wanted_true (g := 23) rfl rfl rfl fg, fun K hK => ?_⟩
        unfold Oper.wp
        go_simp
        refine (bytesOf_any dd _).mono ?_
        rintro e w' ⟨rfl, hB⟩
        exact hK _ _ hB rfl
      · obtain rfl := Option.some.inj ho
        have f37 : ac.tmps.getD 37 undef = .agg (B32 (bdig dd)) := hF.fact 26 _ _ rfl rfl (dep hd 26 (by kernel_rfl))
        have f41 : ac.tmps.getD 41 undef = .agg (B32 (bdig dd)) := hF.fact 30 _ _ rfl rfl (dep hd 30 (by kernel_rfl))
        have fg : ac.tmps.getD 34 undef = .bool true := hF.fact 23 _ _ rfl rfl (dep hd 23 (by kernel_rfl))
        refine ⟨wanted_true (g := 23) rfl rfl rfl fg, fun K hK => ?_⟩
        unfold Oper.wp
        go_simp
        exact hK _ _ (Below.refl _ _) rfl
      · obtain rfl := Option.some.inj ho
        have f34 : ac.tmps.getD 34 undef = .bool true := hF.fact 23 _ _ rfl rfl (dep hd 23 (by kernel_rfl))
        have f42 : ac.tmps.getD 42 undef = .bool true := hF.fact 31 _ _ rfl rfl (dep hd 31 (by kernel_rfl))
        refine ⟨wanted_free rfl, fun K hK => ?_⟩
        unfold Oper.wp
        go_simp
        exact hK _ _ (Below.refl _ _) rfl
      · obtain rfl := Option.some.inj ho
        have f43 : ac.tmps.getD 43 undef = .bool true := hF.fact 32 _ _ rfl rfl (dep hd 32 (by kernel_rfl))
        refine ⟨wanted_free rfl, fun K hK => ?_⟩
        unfold Oper.wp
        go_simp
        exact hK _ _ (Below.refl _ _) rfl
      · obtain rfl := Option.some.inj ho
        have f2 : ac.tmps.getD 2 undef = .pointer (some ⟨bA, 0, none⟩) := slot hF 2 (by kernel_rfl)
        have fg : ac.tmps.getD 44 undef = .bool true := hF.fact 33 _ _ rfl rfl (dep hd 33 (by kernel_rfl))
        refine ⟨wanted_true (g := 33) rfl rfl rfl fg, fun K hK => ?_⟩
        exact wp_load_own 22 (.tmp 2) rfl bA f2 (B32 (bdig a)) _ 22 ((hKq.below hF.cls).at bA (B32 (bdig a)) 22 (by simp)) Tryd.underlying22 rfl (B32_info _) (hK _ _ (Below.refl _ _) rfl)
      · obtain rfl := Option.some.inj ho
        have f3 : ac.tmps.getD 3 undef = .pointer (some ⟨bB, 0, none⟩) := slot hF 3 (by kernel_rfl)
        have fg : ac.tmps.getD 44 undef = .bool true := hF.fact 33 _ _ rfl rfl (dep hd 33 (by kernel_rfl))
        refine ⟨wanted_true (g := 33) rfl rfl rfl fg, fun K hK => ?_⟩
        exact wp_load_own 22 (.tmp 3) rfl bB f3 (B32 (bdig b)) _ 22 ((hKq.below hF.cls).at bB (B32 (bdig b)) 22 (by simp)) Tryd.underlying22 rfl (B32_info _) (hK _ _ (Below.refl _ _) rfl)
      · obtain rfl := Option.some.inj ho
        have f45 : ac.tmps.getD 45 undef = .agg (B32 (bdig a)) := hF.fact 34 _ _ rfl rfl (dep hd 34 (by kernel_rfl))
        have f46 : ac.tmps.getD 46 undef = .agg (B32 (bdig b)) := hF.fact 35 _ _ rfl rfl (dep hd 35 (by kernel_rfl))
        have fg : ac.tmps.getD 44 undef = .bool true := hF.fact 33 _ _ rfl rfl (dep hd 33 (by kernel_rfl))
        refine ⟨wanted_true (g := 33) rfl rfl rfl fg, fun K hK => ?_⟩
        unfold Oper.wp
        go_simp
        refine (F.mulA ha hb Hp.out _ (F.keep _ _ hTq hF.cls)).mono ?_
        rintro e w' ⟨rfl, hB⟩
        exact hK _ _ hB rfl
      · obtain rfl := Option.some.inj ho
        have f5 : ac.tmps.getD 5 undef = .pointer (some ⟨bX, 0, none⟩) := slot hF 5 (by kernel_rfl)
        have fg : ac.tmps.getD 44 undef = .bool true := hF.fact 33 _ _ rfl rfl (dep hd 33 (by kernel_rfl))
        refine ⟨wanted_true (g := 33) rfl rfl rfl fg, fun K hK => ?_⟩
        exact wp_load_own 25 (.tmp 5) rfl bX f5 (numA a) _ 25 ((hKq.below hF.cls).at bX (numA a) 25 (by simp)) Tryd.underlying25 rfl (numA_info a) (hK _ _ (Below.refl _ _) rfl)
      · obtain rfl := Option.some.inj ho
        have f48 : ac.tmps.getD 48 undef = .agg (numA a) := hF.fact 37 _ _ rfl rfl (dep hd 37 (by kernel_rfl))
        have fg : ac.tmps.getD 44 undef = .bool true := hF.fact 33 _ _ rfl rfl (dep hd 33 (by kernel_rfl))
        refine ⟨wanted_true (g := 33) rfl rfl rfl fg, fun K hK => ?_⟩
        unfold Oper.wp
        go_simp
        refine (pmod_at ha Hm.out _).mono ?_
        rintro e w' ⟨rfl, hB⟩
        exact hK _ _ hB rfl
      · obtain rfl := Option.some.inj ho
        have f6 : ac.tmps.getD 6 undef = .pointer (some ⟨bY, 0, none⟩) := slot hF 6 (by kernel_rfl)
        have fg : ac.tmps.getD 44 undef = .bool true := hF.fact 33 _ _ rfl rfl (dep hd 33 (by kernel_rfl))
        refine ⟨wanted_true (g := 33) rfl rfl rfl fg, fun K hK => ?_⟩
        exact wp_load_own 25 (.tmp 6) rfl bY f6 (numA b) _ 25 ((hKq.below hF.cls).at bY (numA b) 25 (by simp)) Tryd.underlying25 rfl (numA_info b) (hK _ _ (Below.refl _ _) rfl)
      · obtain rfl := Option.some.inj ho
        have f50 : ac.tmps.getD 50 undef = .agg (numA b) := hF.fact 39 _ _ rfl rfl (dep hd 39 (by kernel_rfl))
        have fg : ac.tmps.getD 44 undef = .bool true := hF.fact 33 _ _ rfl rfl (dep hd 33 (by kernel_rfl))
        refine ⟨wanted_true (g := 33) rfl rfl rfl fg, fun K hK => ?_⟩
        unfold Oper.wp
        go_simp
        refine (pmod_at hb Hmb.out _).mono ?_
        rintro e w' ⟨rfl, hB⟩
        exact hK _ _ hB rfl
      · obtain rfl := Option.some.inj ho
        have f49 : ac.tmps.getD 49 undef = .agg (numA m) := hF.fact 38 _ _ rfl rfl (dep hd 38 (by kernel_rfl))
        have f51 : ac.tmps.getD 51 undef = .agg (numA mb) := hF.fact 40 _ _ rfl rfl (dep hd 40 (by kernel_rfl))
        have fg : ac.tmps.getD 44 undef = .bool true := hF.fact 33 _ _ rfl rfl (dep hd 33 (by kernel_rfl))
        refine ⟨wanted_true (g := 33) rfl rfl rfl fg, fun K hK => ?_⟩
        unfold Oper.wp
        go_simp
        refine (mul_at hm hmb Hp3.out _).mono ?_
        rintro e w' ⟨rfl, hB⟩
        exact hK _ _ hB rfl
      · obtain rfl := Option.some.inj ho
        have f52 : ac.tmps.getD 52 undef = .agg (numA p) := hF.fact 41 _ _ rfl rfl (dep hd 41 (by kernel_rfl))
        have fg : ac.tmps.getD 44 undef = .bool true := hF.fact 33 _ _ rfl rfl (dep hd 33 (by kernel_rfl))
        refine ⟨wanted_true (g := 33) rfl rfl rfl fg, fun K hK => ?_⟩
        unfold Oper.wp
        go_simp
        refine (bytesOf_any p _).mono ?_
        rintro e w' ⟨rfl, hB⟩
        exact hK _ _ hB rfl
      · obtain rfl := Option.some.inj ho
        have f47 : ac.tmps.getD 47 undef = .agg (B32 (bdig p)) := hF.fact 36 _ _ rfl rfl (dep hd 36 (by kernel_rfl))
        have f53 : ac.tmps.getD 53 undef = .agg (B32 (bdig p)) := hF.fact 42 _ _ rfl rfl (dep hd 42 (by kernel_rfl))
        have fg : ac.tmps.getD 44 undef = .bool true := hF.fact 33 _ _ rfl rfl (dep hd 33 (by kernel_rfl))
        refine ⟨wanted_true (g := 33) rfl rfl rfl fg, fun K hK => ?_⟩
        unfold Oper.wp
        go_simp
        exact hK _ _ (Below.refl _ _) rfl
      · obtain rfl := Option.some.inj ho
        have f44 : ac.tmps.getD 44 undef = .bool true := hF.fact 33 _ _ rfl rfl (dep hd 33 (by kernel_rfl))
        have f54 : ac.tmps.getD 54 undef = .bool true := hF.fact 43 _ _ rfl rfl (dep hd 43 (by kernel_rfl))
        refine ⟨wanted_free rfl, fun K hK => ?_⟩
        unfold Oper.wp
        go_simp
        exact hK _ _ (Below.refl _ _) rfl
      · obtain rfl := Option.some.inj ho
        have f55 : ac.tmps.getD 55 undef = .bool true := hF.fact 44 _ _ rfl rfl (dep hd 44 (by kernel_rfl))
        refine ⟨wanted_free rfl, fun K hK => ?_⟩
        unfold Oper.wp
        go_simp
        exact hK _ _ (Below.refl _ _) rfl
      · obtain rfl := Option.some.inj ho
        have fg : ac.tmps.getD 56 undef = .bool true := hF.fact 45 _ _ rfl rfl (dep hd 45 (by kernel_rfl))
        refine ⟨wanted_true (g := 45) rfl rfl rfl fg, fun K hK => ?_⟩
        unfold Oper.wp
        go_simp
        refine (wakes_any F _ (F.keep _ _ hTq hF.cls)).mono ?_
        rintro e w' ⟨rfl, hB⟩
        exact hK _ _ hB rfl
      · obtain rfl := Option.some.inj ho
        have f56 : ac.tmps.getD 56 undef = .bool true := hF.fact 45 _ _ rfl rfl (dep hd 45 (by kernel_rfl))
        have f57 : ac.tmps.getD 57 undef = .bool true := hF.fact 46 _ _ rfl rfl (dep hd 46 (by kernel_rfl))
        refine ⟨wanted_free rfl, fun K hK => ?_⟩
        unfold Oper.wp
        go_simp
        exact hK _ _ (Below.refl _ _) rfl
      · obtain rfl := Option.some.inj ho
        have f58 : ac.tmps.getD 58 undef = .bool true := hF.fact 47 _ _ rfl rfl (dep hd 47 (by kernel_rfl))
        refine ⟨wanted_free rfl, fun K hK => ?_⟩
        unfold Oper.wp
        go_simp
        exact hK _ _ (Below.refl _ _) rfl
      · cases ho
    · intro L ac wc hL hF
      have f4 : ac.tmps.getD 4 undef = .bool true := hF.fact 48 _ 4 rfl rfl (hL 48 (by decide))
      have hb' := (hKq.below hF.cls).2
      go_wp2
      exact bodyPost_ret (results_tmp rfl _ _ _) hF.defers ⟨by rw [f4], hb'⟩
end Go.Proofs.YtaefjbklioljnaaDoor
