/- The walk of the law FieldLaws, over the program's functions by their contracts. -/
import Derived.Test.YtaefjbklioljnaaDoorE14
import Derived.Test.YtaefjbklioljnaaDoorK8
namespace Go.Proofs.YtaefjbklioljnaaDoor
open Go.RowKit
theorem law_add (a b c : Nat) : (a + (b + c) % pp) % pp = ((a + b) % pp + c) % pp := by
  rw [Nat.add_mod_mod, Nat.mod_add_mod, Nat.add_assoc]
theorem law_mul (a b c : Nat) : a * (b * c % pp) % pp = a * b % pp * c % pp := by
  rw [Nat.mul_mod_mod, Nat.mod_mul_mod, Nat.mul_assoc]
theorem law_dist (a b c : Nat) : (a * c % pp + b * c % pp) % pp = (a + b) % pp * c % pp := by
  rw [← Nat.add_mod, Nat.mod_mul_mod, Nat.add_mul]
theorem law_sub {x y q : Nat} (hy : y < q) (hx : x < q) : (x + q - y) % q = if y ≤ x then x - y else x + q - y := by
  split
  · rw [show x + q - y = (x - y) + q by omega, Nat.add_mod_right, Nat.mod_eq_of_lt (by omega)]
  · exact Nat.mod_eq_of_lt (by omega)
theorem sub_of {x y q r : Nat} (hy : y < q) (hx : x < q) (hr : r < q) (h : (r + y) % q = x) : (x + q - y) % q = r := by
  rw [law_sub hy hx]
  have : r + y < 2 * q := by omega
  rcases Nat.lt_or_ge (r + y) q with h1 | h1
  · rw [Nat.mod_eq_of_lt h1] at h
    rw [if_pos (by omega)]; omega
  · rw [Nat.mod_eq_sub_mod h1, Nat.mod_eq_of_lt (by omega)] at h
    rw [if_neg (by omega)]; omega
theorem back_of {x y q : Nat} (hy : y < q) (hx : x < q) : ((x + q - y) % q + y) % q = x := by
  rw [law_sub hy hx]
  split
  · rw [Nat.sub_add_cancel (by assumption), Nat.mod_eq_of_lt hx]
  · rw [Nat.sub_add_cancel (by omega), Nat.add_mod_right, Nat.mod_eq_of_lt hx]
theorem law_undo (a b : Nat) : ((a + b) % pp % pp + pp - b % pp) % pp = a % pp := by
  rw [Nat.mod_mod]
  exact sub_of (Nat.mod_lt _ pp_pos) (Nat.mod_lt _ pp_pos) (Nat.mod_lt _ pp_pos) (Nat.add_mod ..).symm
theorem law_self (a : Nat) : (a % pp + pp - a % pp) % pp = 0 := by
  rw [Nat.add_sub_cancel_left, Nat.mod_self]
theorem law_back (a b : Nat) : ((a % pp + pp - b % pp) % pp + b) % pp = a % pp := by
  rw [← Nat.add_mod_mod]
  exact back_of (Nat.mod_lt _ pp_pos) (Nat.mod_lt _ pp_pos)
def factL (a b s p : Nat) : Nat → Value → Prop
  | 0, v => v = .agg (B32 (bdig a))
  | 1, v => v = .agg (B32 (bdig b))
  | 2, v => v = .agg (B32 (bdig s))
  | 3, v => v = .agg (B32 (bdig a))
  | 4, v => v = .agg (B32 (bdig b))
  | 5, v => v = .agg (B32 (bdig p))
  | _, v => ∃ g, v = .pointer (some ⟨g, 0, none⟩)
/-- The values of the last statement's operations; those not named are true. -/
def valW (a b c s p u1 u2 v1 v2 q1 q2 m dd : Nat) : Nat → Value
  | 0 => .agg (B32 (bdig s))
  | 1 => .agg (B32 (bdig b))
  | 2 => .agg (B32 (bdig a))
  | 3 => .agg (B32 (bdig s))
  | 6 => .agg (B32 (bdig p))
  | 7 => .agg (B32 (bdig b))
  | 8 => .agg (B32 (bdig a))
  | 9 => .agg (B32 (bdig p))
  | 13 => .agg (B32 (bdig s))
  | 14 => .agg (B32 (bdig c))
  | 15 => .agg (B32 (bdig u1))
  | 16 => .agg (B32 (bdig a))
  | 17 => .agg (B32 (bdig b))
  | 18 => .agg (B32 (bdig c))
  | 19 => .agg (B32 (bdig u2))
  | 20 => .agg (B32 (bdig u1))
  | 24 => .agg (B32 (bdig p))
  | 25 => .agg (B32 (bdig c))
  | 26 => .agg (B32 (bdig v1))
  | 27 => .agg (B32 (bdig a))
  | 28 => .agg (B32 (bdig b))
  | 29 => .agg (B32 (bdig c))
  | 30 => .agg (B32 (bdig v2))
  | 31 => .agg (B32 (bdig v1))
  | 35 => .agg (B32 (bdig a))
  | 36 => .agg (B32 (bdig b))
  | 37 => .agg (B32 (bdig s))
  | 38 => .agg (B32 (bdig c))
  | 39 => .agg (B32 (bdig q1))
  | 40 => .agg (B32 (bdig a))
  | 41 => .agg (B32 (bdig c))
  | 42 => .agg (B32 (bdig q2))
  | 43 => .agg (B32 (bdig b))
  | 44 => .agg (B32 (bdig c))
  | 45 => .agg (B32 (bdig v2))
  | 46 => .agg (B32 (bdig q1))
  | 50 => .agg (B32 (bdig s))
  | 51 => .agg (B32 (bdig b))
  | 52 => .agg (B32 (bdig m))
  | 53 => .agg (B32 (bdig a))
  | 54 => .agg (B32 (bdig m))
  | 58 => .agg (B32 (bdig a))
  | 59 => .agg (B32 (bdig a))
  | 60 => .agg (B32 (bdig 0))
  | 61 => .agg (B32 (bdig 0))
  | 65 => .agg (B32 (bdig a))
  | 66 => .agg (B32 (bdig b))
  | 67 => .agg (B32 (bdig dd))
  | 68 => .agg (B32 (bdig b))
  | 69 => .agg (B32 (bdig m))
  | 70 => .agg (B32 (bdig a))
  | 71 => .agg (B32 (bdig m))
  | 75 => .agg (B32 (bdig s))
  | 79 => .agg (B32 (bdig p))
  | 83 => .agg (B32 (bdig a))
  | 84 => .agg (B32 (bdig b))
  | 85 => .agg (B32 (bdig dd))
  | 89 => .agg (B32 (bdig a))
  | 90 => .agg (B32 (bdig m))
  | 91 => .agg (B32 (bdig m))
  | 92 => .agg (B32 (bdig a))
  | 93 => .agg (B32 (bdig m))
  | _ => .bool true

set_option maxRecDepth 100000 in
set_option maxHeartbeats 16000000 in
theorem laws_any {T : World → Prop} (F : Fld T) (a b c : Nat) (ha : a < R256) (hb : b < R256) (hc : c < R256) (w : World) (hT : T w) : Calls Tryd.prog 6 #[.agg (B32 (bdig a)), .agg (B32 (bdig b)), .agg (B32 (bdig c))] w fun x w' => x = .returned (.bool true) ∧ Below w.heap.size w w' := by
  have hz := (zero_of_info zeroB32).1
  obtain ⟨s, Hs⟩ : ∃ x, Hid ((a + b) % pp = x) := ⟨_, rfl⟩
  have hls : s < pp := by rw [← Hs.out]; exact Nat.mod_lt _ pp_pos
  have hs : s < R256 := Nat.lt_trans hls (by decide)
  obtain ⟨p, Hp⟩ : ∃ x, Hid (a * b % pp = x) := ⟨_, rfl⟩
  have hlp : p < pp := by rw [← Hp.out]; exact Nat.mod_lt _ pp_pos
  have hp : p < R256 := Nat.lt_trans hlp (by decide)
  obtain ⟨u1, Hu1⟩ : ∃ x, Hid ((s + c) % pp = x) := ⟨_, rfl⟩
  have hlu1 : u1 < pp := by rw [← Hu1.out]; exact Nat.mod_lt _ pp_pos
  have hu1 : u1 < R256 := Nat.lt_trans hlu1 (by decide)
  obtain ⟨u2, Hu2⟩ : ∃ x, Hid ((b + c) % pp = x) := ⟨_, rfl⟩
  have hlu2 : u2 < pp := by rw [← Hu2.out]; exact Nat.mod_lt _ pp_pos
  have hu2 : u2 < R256 := Nat.lt_trans hlu2 (by decide)
  obtain ⟨v1, Hv1⟩ : ∃ x, Hid (p * c % pp = x) := ⟨_, rfl⟩
  have hlv1 : v1 < pp := by rw [← Hv1.out]; exact Nat.mod_lt _ pp_pos
  have hv1 : v1 < R256 := Nat.lt_trans hlv1 (by decide)
  obtain ⟨v2, Hv2⟩ : ∃ x, Hid (b * c % pp = x) := ⟨_, rfl⟩
  have hlv2 : v2 < pp := by rw [← Hv2.out]; exact Nat.mod_lt _ pp_pos
  have hv2 : v2 < R256 := Nat.lt_trans hlv2 (by decide)
  obtain ⟨q1, Hq1⟩ : ∃ x, Hid (s * c % pp = x) := ⟨_, rfl⟩
  have hlq1 : q1 < pp := by rw [← Hq1.out]; exact Nat.mod_lt _ pp_pos
  have hq1 : q1 < R256 := Nat.lt_trans hlq1 (by decide)
  obtain ⟨q2, Hq2⟩ : ∃ x, Hid (a * c % pp = x) := ⟨_, rfl⟩
  have hlq2 : q2 < pp := by rw [← Hq2.out]; exact Nat.mod_lt _ pp_pos
  have hq2 : q2 < R256 := Nat.lt_trans hlq2 (by decide)
  obtain ⟨m, Hm⟩ : ∃ x, Hid (a % pp = x) := ⟨_, rfl⟩
  have hlm : m < pp := by rw [← Hm.out]; exact Nat.mod_lt _ pp_pos
  have hm : m < R256 := Nat.lt_trans hlm (by decide)
  obtain ⟨dd, Hd⟩ : ∃ x, Hid ((a % pp + pp - b % pp) % pp = x) := ⟨_, rfl⟩
  have hldd : dd < pp := by rw [← Hd.out]; exact Nat.mod_lt _ pp_pos
  have hdd : dd < R256 := Nat.lt_trans hldd (by decide)
  have Hs2 : Hid ((b + a) % pp = s) := by show _ = _; rw [Nat.add_comm]; exact Hs.out
  have Hp2 : Hid (b * a % pp = p) := by show _ = _; rw [Nat.mul_comm]; exact Hp.out
  have Hu3 : Hid ((a + u2) % pp = u1) := by show _ = _; rw [← Hu1.out, ← Hu2.out, ← Hs.out]; exact law_add a b c
  have Hv3 : Hid (a * v2 % pp = v1) := by show _ = _; rw [← Hv1.out, ← Hv2.out, ← Hp.out]; exact law_mul a b c
  have Hq3 : Hid ((q2 + v2) % pp = q1) := by show _ = _; rw [← Hq1.out, ← Hq2.out, ← Hv2.out, ← Hs.out]; exact law_dist a b c
  have Hm2 : Hid ((s % pp + pp - b % pp) % pp = m) := by show _ = _; rw [← Hm.out, ← Hs.out]; exact law_undo a b
  have Hz : Hid ((a % pp + pp - a % pp) % pp = 0) := law_self a
  have Hm3 : Hid ((dd + b) % pp = m) := by show _ = _; rw [← Hm.out, ← Hd.out]; exact law_back a b
  have Hm4 : Hid (m % pp = m) := Nat.mod_eq_of_lt hlm
  have h0 : 0 < R256 := by decide
  have same_s := B32_same s hs
  have same_p := B32_same p hp
  have same_u1 := B32_same u1 hu1
  have same_v1 := B32_same v1 hv1
  have same_q1 := B32_same q1 hq1
  have same_m := B32_same m hm
  have same_0 := B32_same 0 h0
  go_enter Tryd.func6, Tryd.ntmps6
  go_upto_region 1 with fail
  have hK0 := (((Kp.nil w).alloc (B32 (bdig a)) 22).alloc (B32 (bdig b)) 22).alloc (B32 (bdig c)) 22
  rw [World.size_alloc, World.size_alloc] at hK0
  generalize ((w.alloc (.cells (B32 (bdig a)) 22)).alloc (.cells (B32 (bdig b)) 22)).alloc (.cells (B32 (bdig c)) 22) = W at *
  obtain ⟨bA, HA⟩ : ∃ bA, Hid (w.heap.size = bA) := ⟨_, rfl⟩
  obtain ⟨bB, HB⟩ : ∃ bB, Hid (bA + 1 = bB) := ⟨_, rfl⟩
  obtain ⟨bC, HC⟩ : ∃ bC, Hid (bB + 1 = bC) := ⟨_, rfl⟩
  rw [HA.out, HB.out, HC.out] at hK0 ⊢
  refine wp_region_told 114 (by kernel_rfl) (by kernel_rfl) (by rfl) (factL a b s p) (fun L vs => J2 [(bC, B32 (bdig c), 22), (bB, B32 (bdig b), 22), (bA, B32 (bdig a), 22)] w (B32 fun _ => 0) (B32 (bdig s)) (B32 (bdig p)) 22 (L 6) (L 8) (vs 6) (L 7) (L 9) (vs 7)) (fun _ => J2.start hK0) ?_ ?_
  · intro L vs ac wc i o hF hLi ho hd K hK
    rcases i with _ | _ | _ | _ | _ | _ | _ | _ | _ | _ | i
    · have ho' := ho
      obtain rfl := Option.some.inj ho
      have f3 : ac.tmps.getD 3 undef = .pointer (some ⟨bA, 0, none⟩) := slott hF 0 hLi 3 (by kernel_rfl)
      refine step_do ho' (wanted_free rfl) ?_
      exact wp_load_own 22 (.tmp 3) rfl bA f3 (B32 (bdig a)) _ 22 (hF.j.kp.at bA (B32 (bdig a)) 22 (by simp)) Tryd.underlying22 rfl (B32_info _) (hK _ _ (.inr rfl) hF.j)
    · have ho' := ho
      obtain rfl := Option.some.inj ho
      have f4 : ac.tmps.getD 4 undef = .pointer (some ⟨bB, 0, none⟩) := slott hF 1 hLi 4 (by kernel_rfl)
      refine step_do ho' (wanted_free rfl) ?_
      exact wp_load_own 22 (.tmp 4) rfl bB f4 (B32 (bdig b)) _ 22 (hF.j.kp.at bB (B32 (bdig b)) 22 (by simp)) Tryd.underlying22 rfl (B32_info _) (hK _ _ (.inr rfl) hF.j)
    · have ho' := ho
      obtain rfl := Option.some.inj ho
      have f9 : ac.tmps.getD 9 undef = .agg (B32 (bdig a)) := (factt hF hd 0 rfl rfl (by kernel_rfl)).1.trans (factt hF hd 0 rfl rfl (by kernel_rfl)).2
      have f10 : ac.tmps.getD 10 undef = .agg (B32 (bdig b)) := (factt hF hd 1 rfl rfl (by kernel_rfl)).1.trans (factt hF hd 1 rfl rfl (by kernel_rfl)).2
      refine step_do ho' (wanted_free rfl) ?_
      unfold Oper.wp
      go_simp
      refine (F.addA ha hb Hs.out _ (F.keep _ _ hT hF.j.kp.2)).mono ?_
      rintro e w' ⟨rfl, hB⟩
      exact hK _ _ (.inr rfl) (hF.j.below hB)
    · have ho' := ho
      obtain rfl := Option.some.inj ho
      have f3 : ac.tmps.getD 3 undef = .pointer (some ⟨bA, 0, none⟩) := slott hF 3 hLi 3 (by kernel_rfl)
      refine step_do ho' (wanted_free rfl) ?_
      exact wp_load_own 22 (.tmp 3) rfl bA f3 (B32 (bdig a)) _ 22 (hF.j.kp.at bA (B32 (bdig a)) 22 (by simp)) Tryd.underlying22 rfl (B32_info _) (hK _ _ (.inr rfl) hF.j)
    · have ho' := ho
      obtain rfl := Option.some.inj ho
      have f4 : ac.tmps.getD 4 undef = .pointer (some ⟨bB, 0, none⟩) := slott hF 4 hLi 4 (by kernel_rfl)
      refine step_do ho' (wanted_free rfl) ?_
      exact wp_load_own 22 (.tmp 4) rfl bB f4 (B32 (bdig b)) _ 22 (hF.j.kp.at bB (B32 (bdig b)) 22 (by simp)) Tryd.underlying22 rfl (B32_info _) (hK _ _ (.inr rfl) hF.j)
    · have ho' := ho
      obtain rfl := Option.some.inj ho
      have f12 : ac.tmps.getD 12 undef = .agg (B32 (bdig a)) := (factt hF hd 3 rfl rfl (by kernel_rfl)).1.trans (factt hF hd 3 rfl rfl (by kernel_rfl)).2
      have f13 : ac.tmps.getD 13 undef = .agg (B32 (bdig b)) := (factt hF hd 4 rfl rfl (by kernel_rfl)).1.trans (factt hF hd 4 rfl rfl (by kernel_rfl)).2
      refine step_do ho' (wanted_free rfl) ?_
      unfold Oper.wp
      go_simp
      refine (F.mulA ha hb Hp.out _ (F.keep _ _ hT hF.j.kp.2)).mono ?_
      rintro e w' ⟨rfl, hB⟩
      exact hK _ _ (.inr rfl) (hF.j.below hB)
    · have ho' := ho
      obtain rfl := Option.some.inj ho
      refine step_do ho' (wanted_free rfl) ?_
      have h8 := notyett hF 6 hLi 8 rfl (by kernel_rfl)
      unfold Oper.wp
      go_simp
      exact hK _ _ (.inr ⟨_, rfl⟩) (hF.j.alloc h8)
    · have ho' := ho
      obtain rfl := Option.some.inj ho
      refine step_do ho' (wanted_free rfl) ?_
      have h9 := notyett hF 7 hLi 9 rfl (by kernel_rfl)
      unfold Oper.wp
      go_simp
      exact hK _ _ (.inr ⟨_, rfl⟩) (hF.j.swap.alloc h9).swap
    · have ho' := ho
      obtain rfl := Option.some.inj ho
      have f11 : ac.tmps.getD 11 undef = .agg (B32 (bdig s)) := (factt hF hd 2 rfl rfl (by kernel_rfl)).1.trans (factt hF hd 2 rfl rfl (by kernel_rfl)).2
      refine step_do ho' (wanted_free rfl) ?_
      obtain ⟨f7, g, hg⟩ := factt hF hd 6 rfl rfl (by kernel_rfl)
      have h6 := dep hd 6 (by kernel_rfl)
      have hj := hF.j
      rw [hg] at f7
      obtain ⟨_, _, ow⟩ := hj.at h6 hg
      rw [hLi] at ow
      refine wp_store_own 22 (.tmp 7) (.tmp 11) rfl g (B32 (bdig s)) f7 f11 ow (B32_sizes _ _) (B32_info _) (B32_one _) rfl ?_
      exact hK undef _ (.inl rfl) (hj.store h6 hg hLi (B32_sizes _ _))
    · have ho' := ho
      obtain rfl := Option.some.inj ho
      have f14 : ac.tmps.getD 14 undef = .agg (B32 (bdig p)) := (factt hF hd 5 rfl rfl (by kernel_rfl)).1.trans (factt hF hd 5 rfl rfl (by kernel_rfl)).2
      refine step_do ho' (wanted_free rfl) ?_
      obtain ⟨f8, g, hg⟩ := factt hF hd 7 rfl rfl (by kernel_rfl)
      have h7 := dep hd 7 (by kernel_rfl)
      have hj := hF.j.swap
      rw [hg] at f8
      obtain ⟨_, _, ow⟩ := hj.at h7 hg
      rw [hLi] at ow
      refine wp_store_own 22 (.tmp 8) (.tmp 14) rfl g (B32 (bdig p)) f8 f14 ow (B32_sizes _ _) (B32_info _) (B32_one _) rfl ?_
      exact hK undef _ (.inl rfl) (hj.store h7 hg hLi (B32_sizes _ _)).swap
    · cases ho
  · intro L vs wq hL hJ hf
    obtain ⟨bS, hg⟩ := hf 6 _ _ rfl rfl
    obtain ⟨bP, hg'⟩ := hf 7 _ _ rfl rfl
    have hKq := hJ.done (hL 6 (by decide)) hg (hL 8 (by decide)) (hL 7 (by decide)) hg' (hL 9 (by decide))
    have q0 : vs 0 = _ := hf 0 _ _ rfl rfl
    have q1' : vs 1 = _ := hf 1 _ _ rfl rfl
    have q2' : vs 2 = _ := hf 2 _ _ rfl rfl
    have q3 : vs 3 = _ := hf 3 _ _ rfl rfl
    have q4 : vs 4 = _ := hf 4 _ _ rfl rfl
    have q5 : vs 5 = _ := hf 5 _ _ rfl rfl
    simp only [putAll, Nat.zero_add, Nat.reduceAdd, q0, q1', q2', q3, q4, q5, hg, hg', Act.put, List.setIfInBounds_toArray, List.set_cons_succ, List.set_cons_zero]
    clear q0 q1' q2' q3 q4 q5 hg hg' hf hJ hL hK0
    have hTq := F.keep _ _ hT hKq.2
    go_upto_region 2 with fail
    refine wp_region_stable 114 (by kernel_rfl) (by kernel_rfl) (by rfl) (fun i v _ => v = valW a b c s p u1 u2 v1 v2 q1 q2 m dd i) (fun _ _ _ _ _ h => h) ?_ ?_
    · intro L ac wc i o hF ho hd
      rcases i with _ | _ | _ | _ | _ | _ | _ | _ | _ | _ | _ | _ | _ | _ | _ | _ | _ | _ | _ | _ | _ | _ | _ | _ | _ | _ | _ | _ | _ | _ | _ | _ | _ | _ | _ | _ | _ | _ | _ | _ | _ | _ | _ | _ | _ | _ | _ | _ | _ | _ | _ | _ | _ | _ | _ | _ | _ | _ | _ | _ | _ | _ | _ | _ | _ | _ | _ | _ | _ | _ | _ | _ | _ | _ | _ | _ | _ | _ | _ | _ | _ | _ | _ | _ | _ | _ | _ | _ | _ | _ | _ | _ | _ | _ | _ | _ | _ | _ | _ | _ | i
      · obtain rfl := Option.some.inj ho
        have f7 : ac.tmps.getD 7 undef = .pointer (some ⟨bS, 0, none⟩) := slot hF 7 (by kernel_rfl)
        refine ⟨wanted_free rfl, fun K hK => ?_⟩
        exact wp_load_own 22 (.tmp 7) rfl bS f7 (B32 (bdig s)) _ 22 ((hKq.below hF.cls).at bS (B32 (bdig s)) 22 (by simp)) Tryd.underlying22 rfl (B32_info _) (hK _ _ (Below.refl _ _) rfl)
      · obtain rfl := Option.some.inj ho
        have f4 : ac.tmps.getD 4 undef = .pointer (some ⟨bB, 0, none⟩) := slot hF 4 (by kernel_rfl)
        refine ⟨wanted_free rfl, fun K hK => ?_⟩
        exact wp_load_own 22 (.tmp 4) rfl bB f4 (B32 (bdig b)) _ 22 ((hKq.below hF.cls).at bB (B32 (bdig b)) 22 (by simp)) Tryd.underlying22 rfl (B32_info _) (hK _ _ (Below.refl _ _) rfl)
      · obtain rfl := Option.some.inj ho
        have f3 : ac.tmps.getD 3 undef = .pointer (some ⟨bA, 0, none⟩) := slot hF 3 (by kernel_rfl)
        refine ⟨wanted_free rfl, fun K hK => ?_⟩
        exact wp_load_own 22 (.tmp 3) rfl bA f3 (B32 (bdig a)) _ 22 ((hKq.below hF.cls).at bA (B32 (bdig a)) 22 (by simp)) Tryd.underlying22 rfl (B32_info _) (hK _ _ (Below.refl _ _) rfl)
      · obtain rfl := Option.some.inj ho
        have f16 : ac.tmps.getD 16 undef = .agg (B32 (bdig b)) := hF.fact 1 _ _ rfl rfl (dep hd 1 (by kernel_rfl))
        have f17 : ac.tmps.getD 17 undef = .agg (B32 (bdig a)) := hF.fact 2 _ _ rfl rfl (dep hd 2 (by kernel_rfl))
        refine ⟨wanted_free rfl, fun K hK => ?_⟩
        unfold Oper.wp
        go_simp
        refine (F.addA hb ha Hs2.out _ (F.keep _ _ hTq hF.cls)).mono ?_
        rintro e w' ⟨rfl, hB⟩
        exact hK _ _ hB rfl
      · obtain rfl := Option.some.inj ho
        have f15 : ac.tmps.getD 15 undef = .agg (B32 (bdig s)) := hF.fact 0 _ _ rfl rfl (dep hd 0 (by kernel_rfl))
        have f18 : ac.tmps.getD 18 undef = .agg (B32 (bdig s)) := hF.fact 3 _ _ rfl rfl (dep hd 3 (by kernel_rfl))
        refine ⟨wanted_free rfl, fun K hK => ?_⟩
        unfold Oper.wp
        go_simp
        exact hK _ _ (Below.refl _ _) rfl
      · obtain rfl := Option.some.inj ho
        have f19 : ac.tmps.getD 19 undef = .bool true := hF.fact 4 _ _ rfl rfl (dep hd 4 (by kernel_rfl))
        refine ⟨wanted_free rfl, fun K hK => ?_⟩
        unfold Oper.wp
        go_simp
        exact hK _ _ (Below.refl _ _) rfl
      · obtain rfl := Option.some.inj ho
        have f8 : ac.tmps.getD 8 undef = .pointer (some ⟨bP, 0, none⟩) := slot hF 8 (by kernel_rfl)
        have fg : ac.tmps.getD 20 undef = .bool true := hF.fact 5 _ _ rfl rfl (dep hd 5 (by kernel_rfl))
        refine ⟨wanted_true (g := 5) rfl rfl rfl fg, fun K hK => ?_⟩
        exact wp_load_own 22 (.tmp 8) rfl bP f8 (B32 (bdig p)) _ 22 ((hKq.below hF.cls).at bP (B32 (bdig p)) 22 (by simp)) Tryd.underlying22 rfl (B32_info _) (hK _ _ (Below.refl _ _) rfl)
      · obtain rfl := Option.some.inj ho
        have f4 : ac.tmps.getD 4 undef = .pointer (some ⟨bB, 0, none⟩) := slot hF 4 (by kernel_rfl)
        have fg : ac.tmps.getD 20 undef = .bool true := hF.fact 5 _ _ rfl rfl (dep hd 5 (by kernel_rfl))
        refine ⟨wanted_true (g := 5) rfl rfl rfl fg, fun K hK => ?_⟩
        exact wp_load_own 22 (.tmp 4) rfl bB f4 (B32 (bdig b)) _ 22 ((hKq.below hF.cls).at bB (B32 (bdig b)) 22 (by simp)) Tryd.underlying22 rfl (B32_info _) (hK _ _ (Below.refl _ _) rfl)
      · obtain rfl := Option.some.inj ho
        have f3 : ac.tmps.getD 3 undef = .pointer (some ⟨bA, 0, none⟩) := slot hF 3 (by kernel_rfl)
        have fg : ac.tmps.getD 20 undef = .bool true := hF.fact 5 _ _ rfl rfl (dep hd 5 (by kernel_rfl))
        refine ⟨wanted_true (g := 5) rfl rfl rfl fg, fun K hK => ?_⟩
        exact wp_load_own 22 (.tmp 3) rfl bA f3 (B32 (bdig a)) _ 22 ((hKq.below hF.cls).at bA (B32 (bdig a)) 22 (by simp)) Tryd.underlying22 rfl (B32_info _) (hK _ _ (Below.refl _ _) rfl)
      · obtain rfl := Option.some.inj ho
        have f22 : ac.tmps.getD 22 undef = .agg (B32 (bdig b)) := hF.fact 7 _ _ rfl rfl (dep hd 7 (by kernel_rfl))
        have f23 : ac.tmps.getD 23 undef = .agg (B32 (bdig a)) := hF.fact 8 _ _ rfl rfl (dep hd 8 (by kernel_rfl))
        have fg : ac.tmps.getD 20 undef = .bool true := hF.fact 5 _ _ rfl rfl (dep hd 5 (by kernel_rfl))
        refine ⟨wanted_true (g := 5) rfl rfl rfl fg, fun K hK => ?_⟩
        unfold Oper.wp
        go_simp
        refine (F.mulA hb ha Hp2.out _ (F.keep _ _ hTq hF.cls)).mono ?_
        rintro e w' ⟨rfl, hB⟩
        exact hK _ _ hB rfl
      · obtain rfl := Option.some.inj ho
        have f21 : ac.tmps.getD 21 undef = .agg (B32 (bdig p)) := hF.fact 6 _ _ rfl rfl (dep hd 6 (by kernel_rfl))
        have f24 : ac.tmps.getD 24 undef = .agg (B32 (bdig p)) := hF.fact 9 _ _ rfl rfl (dep hd 9 (by kernel_rfl))
        have fg : ac.tmps.getD 20 undef = .bool true := hF.fact 5 _ _ rfl rfl (dep hd 5 (by kernel_rfl))
        refine ⟨wanted_true (g := 5) rfl rfl rfl fg, fun K hK => ?_⟩
        unfold Oper.wp
        go_simp
        exact hK _ _ (Below.refl _ _) rfl
      · obtain rfl := Option.some.inj ho
        have f20 : ac.tmps.getD 20 undef = .bool true := hF.fact 5 _ _ rfl rfl (dep hd 5 (by kernel_rfl))
        have f25 : ac.tmps.getD 25 undef = .bool true := hF.fact 10 _ _ rfl rfl (dep hd 10 (by kernel_rfl))
        refine ⟨wanted_free rfl, fun K hK => ?_⟩
        unfold Oper.wp
        go_simp
        exact hK _ _ (Below.refl _ _) rfl
      · obtain rfl := Option.some.inj ho
        have f26 : ac.tmps.getD 26 undef = .bool true := hF.fact 11 _ _ rfl rfl (dep hd 11 (by kernel_rfl))
        refine ⟨wanted_free rfl, fun K hK => ?_⟩
        unfold Oper.wp
        go_simp
        exact hK _ _ (Below.refl _ _) rfl
      · obtain rfl := Option.some.inj ho
        have f7 : ac.tmps.getD 7 undef = .pointer (some ⟨bS, 0, none⟩) := slot hF 7 (by kernel_rfl)
        have fg : ac.tmps.getD 27 undef = .bool true := hF.fact 12 _ _ rfl rfl (dep hd 12 (by kernel_rfl))
        refine ⟨wanted_true (g := 12) rfl rfl rfl fg, fun K hK => ?_⟩
        exact wp_load_own 22 (.tmp 7) rfl bS f7 (B32 (bdig s)) _ 22 ((hKq.below hF.cls).at bS (B32 (bdig s)) 22 (by simp)) Tryd.underlying22 rfl (B32_info _) (hK _ _ (Below.refl _ _) rfl)
      · obtain rfl := Option.some.inj ho
        have f5 : ac.tmps.getD 5 undef = .pointer (some ⟨bC, 0, none⟩) := slot hF 5 (by kernel_rfl)
        have fg : ac.tmps.getD 27 undef = .bool true := hF.fact 12 _ _ rfl rfl (dep hd 12 (by kernel_rfl))
        refine ⟨wanted_true (g := 12) rfl rfl rfl fg, fun K hK => ?_⟩
        exact wp_load_own 22 (.tmp 5) rfl bC f5 (B32 (bdig c)) _ 22 ((hKq.below hF.cls).at bC (B32 (bdig c)) 22 (by simp)) Tryd.underlying22 rfl (B32_info _) (hK _ _ (Below.refl _ _) rfl)
      · obtain rfl := Option.some.inj ho
        have f28 : ac.tmps.getD 28 undef = .agg (B32 (bdig s)) := hF.fact 13 _ _ rfl rfl (dep hd 13 (by kernel_rfl))
        have f29 : ac.tmps.getD 29 undef = .agg (B32 (bdig c)) := hF.fact 14 _ _ rfl rfl (dep hd 14 (by kernel_rfl))
        have fg : ac.tmps.getD 27 undef = .bool true := hF.fact 12 _ _ rfl rfl (dep hd 12 (by kernel_rfl))
        refine ⟨wanted_true (g := 12) rfl rfl rfl fg, fun K hK => ?_⟩
        unfold Oper.wp
        go_simp
        refine (F.addA hs hc Hu1.out _ (F.keep _ _ hTq hF.cls)).mono ?_
        rintro e w' ⟨rfl, hB⟩
        exact hK _ _ hB rfl
      · obtain rfl := Option.some.inj ho
        have f3 : ac.tmps.getD 3 undef = .pointer (some ⟨bA, 0, none⟩) := slot hF 3 (by kernel_rfl)
        have fg : ac.tmps.getD 27 undef = .bool true := hF.fact 12 _ _ rfl rfl (dep hd 12 (by kernel_rfl))
        refine ⟨wanted_true (g := 12) rfl rfl rfl fg, fun K hK => ?_⟩
        exact wp_load_own 22 (.tmp 3) rfl bA f3 (B32 (bdig a)) _ 22 ((hKq.below hF.cls).at bA (B32 (bdig a)) 22 (by simp)) Tryd.underlying22 rfl (B32_info _) (hK _ _ (Below.refl _ _) rfl)
      · obtain rfl := Option.some.inj ho
        have f4 : ac.tmps.getD 4 undef = .pointer (some ⟨bB, 0, none⟩) := slot hF 4 (by kernel_rfl)
        have fg : ac.tmps.getD 27 undef = .bool true := hF.fact 12 _ _ rfl rfl (dep hd 12 (by kernel_rfl))
        refine ⟨wanted_true (g := 12) rfl rfl rfl fg, fun K hK => ?_⟩
        exact wp_load_own 22 (.tmp 4) rfl bB f4 (B32 (bdig b)) _ 22 ((hKq.below hF.cls).at bB (B32 (bdig b)) 22 (by simp)) Tryd.underlying22 rfl (B32_info _) (hK _ _ (Below.refl _ _) rfl)
      · obtain rfl := Option.some.inj ho
        have f5 : ac.tmps.getD 5 undef = .pointer (some ⟨bC, 0, none⟩) := slot hF 5 (by kernel_rfl)
        have fg : ac.tmps.getD 27 undef = .bool true := hF.fact 12 _ _ rfl rfl (dep hd 12 (by kernel_rfl))
        refine ⟨wanted_true (g := 12) rfl rfl rfl fg, fun K hK => ?_⟩
        exact wp_load_own 22 (.tmp 5) rfl bC f5 (B32 (bdig c)) _ 22 ((hKq.below hF.cls).at bC (B32 (bdig c)) 22 (by simp)) Tryd.underlying22 rfl (B32_info _) (hK _ _ (Below.refl _ _) rfl)
      · obtain rfl := Option.some.inj ho
        have f32 : ac.tmps.getD 32 undef = .agg (B32 (bdig b)) := hF.fact 17 _ _ rfl rfl (dep hd 17 (by kernel_rfl))
        have f33 : ac.tmps.getD 33 undef = .agg (B32 (bdig c)) := hF.fact 18 _ _ rfl rfl (dep hd 18 (by kernel_rfl))
        have fg : ac.tmps.getD 27 undef = .bool true := hF.fact 12 _ _ rfl rfl (dep hd 12 (by kernel_rfl))
        refine ⟨wanted_true (g := 12) rfl rfl rfl fg, fun K hK => ?_⟩
        unfold Oper.wp
        go_simp
        refine (F.addA hb hc Hu2.out _ (F.keep _ _ hTq hF.cls)).mono ?_
        rintro e w' ⟨rfl, hB⟩
        exact hK _ _ hB rfl
      · obtain rfl := Option.some.inj ho
        have f31 : ac.tmps.getD 31 undef = .agg (B32 (bdig a)) := hF.fact 16 _ _ rfl rfl (dep hd 16 (by kernel_rfl))
        have f34 : ac.tmps.getD 34 undef = .agg (B32 (bdig u2)) := hF.fact 19 _ _ rfl rfl (dep hd 19 (by kernel_rfl))
        have fg : ac.tmps.getD 27 undef = .bool true := hF.fact 12 _ _ rfl rfl (dep hd 12 (by kernel_rfl))
        refine ⟨wanted_true (g := 12) rfl rfl rfl fg, fun K hK => ?_⟩
        unfold Oper.wp
        go_simp
        refine (F.addA ha hu2 Hu3.out _ (F.keep _ _ hTq hF.cls)).mono ?_
        rintro e w' ⟨rfl, hB⟩
        exact hK _ _ hB rfl
      · obtain rfl := Option.some.inj ho
        have f30 : ac.tmps.getD 30 undef = .agg (B32 (bdig u1)) := hF.fact 15 _ _ rfl rfl (dep hd 15 (by kernel_rfl))
        have f35 : ac.tmps.getD 35 undef = .agg (B32 (bdig u1)) := hF.fact 20 _ _ rfl rfl (dep hd 20 (by kernel_rfl))
        have fg : ac.tmps.getD 27 undef = .bool true := hF.fact 12 _ _ rfl rfl (dep hd 12 (by kernel_rfl))
        refine ⟨wanted_true (g := 12) rfl rfl rfl fg, fun K hK => ?_⟩
        unfold Oper.wp
        go_simp
        exact hK _ _ (Below.refl _ _) rfl
      · obtain rfl := Option.some.inj ho
        have f27 : ac.tmps.getD 27 undef = .bool true := hF.fact 12 _ _ rfl rfl (dep hd 12 (by kernel_rfl))
        have f36 : ac.tmps.getD 36 undef = .bool true := hF.fact 21 _ _ rfl rfl (dep hd 21 (by kernel_rfl))
        refine ⟨wanted_free rfl, fun K hK => ?_⟩
        unfold Oper.wp
        go_simp
        exact hK _ _ (Below.refl _ _) rfl
      · obtain rfl := Option.some.inj ho
        have f37 : ac.tmps.getD 37 undef = .bool true := hF.fact 22 _ _ rfl rfl (dep hd 22 (by kernel_rfl))
        refine ⟨wanted_free rfl, fun K hK => ?_⟩
        unfold Oper.wp
        go_simp
        exact hK _ _ (Below.refl _ _) rfl
      · obtain rfl := Option.some.inj ho
        have f8 : ac.tmps.getD 8 undef = .pointer (some ⟨bP, 0, none⟩) := slot hF 8 (by kernel_rfl)
        have fg : ac.tmps.getD 38 undef = .bool true := hF.fact 23 _ _ rfl rfl (dep hd 23 (by kernel_rfl))
        refine ⟨wanted_true (g := 23) rfl rfl rfl fg, fun K hK => ?_⟩
        exact wp_load_own 22 (.tmp 8) rfl bP f8 (B32 (bdig p)) _ 22 ((hKq.below hF.cls).at bP (B32 (bdig p)) 22 (by simp)) Tryd.underlying22 rfl (B32_info _) (hK _ _ (Below.refl _ _) rfl)
      · obtain rfl := Option.some.inj ho
        have f5 : ac.tmps.getD 5 undef = .pointer (some ⟨bC, 0, none⟩) := slot hF 5 (by kernel_rfl)
        have fg : ac.tmps.getD 38 undef = .bool true := hF.fact 23 _ _ rfl rfl (dep hd 23 (by kernel_rfl))
        refine ⟨wanted_true (g := 23) rfl rfl rfl fg, fun K hK => ?_⟩
        exact wp_load_own 22 (.tmp 5) rfl bC f5 (B32 (bdig c)) _ 22 ((hKq.below hF.cls).at bC (B32 (bdig c)) 22 (by simp)) Tryd.underlying22 rfl (B32_info _) (hK _ _ (Below.refl _ _) rfl)
      · obtain rfl := Option.some.inj ho
        have f39 : ac.tmps.getD 39 undef = .agg (B32 (bdig p)) := hF.fact 24 _ _ rfl rfl (dep hd 24 (by kernel_rfl))
        have f40 : ac.tmps.getD 40 undef = .agg (B32 (bdig c)) := hF.fact 25 _ _ rfl rfl (dep hd 25 (by kernel_rfl))
        have fg : ac.tmps.getD 38 undef = .bool true := hF.fact 23 _ _ rfl rfl (dep hd 23 (by kernel_rfl))
        refine ⟨wanted_true (g := 23) rfl rfl rfl fg, fun K hK => ?_⟩
        unfold Oper.wp
        go_simp
        refine (F.mulA hp hc Hv1.out _ (F.keep _ _ hTq hF.cls)).mono ?_
        rintro e w' ⟨rfl, hB⟩
        exact hK _ _ hB rfl
      · obtain rfl := Option.some.inj ho
        have f3 : ac.tmps.getD 3 undef = .pointer (some ⟨bA, 0, none⟩) := slot hF 3 (by kernel_rfl)
        have fg : ac.tmps.getD 38 undef = .bool true := hF.fact 23 _ _ rfl rfl (dep hd 23 (by kernel_rfl))
        refine ⟨wanted_true (g := 23) rfl rfl rfl fg, fun K hK => ?_⟩
        exact wp_load_own 22 (.tmp 3) rfl bA f3 (B32 (bdig a)) _ 22 ((hKq.below hF.cls).at bA (B32 (bdig a)) 22 (by simp)) Tryd.underlying22 rfl (B32_info _) (hK _ _ (Below.refl _ _) rfl)
      · obtain rfl := Option.some.inj ho
        have f4 : ac.tmps.getD 4 undef = .pointer (some ⟨bB, 0, none⟩) := slot hF 4 (by kernel_rfl)
        have fg : ac.tmps.getD 38 undef = .bool true := hF.fact 23 _ _ rfl rfl (dep hd 23 (by kernel_rfl))
        refine ⟨wanted_true (g := 23) rfl rfl rfl fg, fun K hK => ?_⟩
        exact wp_load_own 22 (.tmp 4) rfl bB f4 (B32 (bdig b)) _ 22 ((hKq.below hF.cls).at bB (B32 (bdig b)) 22 (by simp)) Tryd.underlying22 rfl (B32_info _) (hK _ _ (Below.refl _ _) rfl)
      · obtain rfl := Option.some.inj ho
        have f5 : ac.tmps.getD 5 undef = .pointer (some ⟨bC, 0, none⟩) := slot hF 5 (by kernel_rfl)
        have fg : ac.tmps.getD 38 undef = .bool true := hF.fact 23 _ _ rfl rfl (dep hd 23 (by kernel_rfl))
        refine ⟨wanted_true (g := 23) rfl rfl rfl fg, fun K hK => ?_⟩
        exact wp_load_own 22 (.tmp 5) rfl bC f5 (B32 (bdig c)) _ 22 ((hKq.below hF.cls).at bC (B32 (bdig c)) 22 (by simp)) Tryd.underlying22 rfl (B32_info _) (hK _ _ (Below.refl _ _) rfl)
      · obtain rfl := Option.some.inj ho
        have f43 : ac.tmps.getD 43 undef = .agg (B32 (bdig b)) := hF.fact 28 _ _ rfl rfl (dep hd 28 (by kernel_rfl))
        have f44 : ac.tmps.getD 44 undef = .agg (B32 (bdig c)) := hF.fact 29 _ _ rfl rfl (dep hd 29 (by kernel_rfl))
        have fg : ac.tmps.getD 38 undef = .bool true := hF.fact 23 _ _ rfl rfl (dep hd 23 (by kernel_rfl))
        refine ⟨wanted_true (g := 23) rfl rfl rfl fg, fun K hK => ?_⟩
        unfold Oper.wp
        go_simp
        refine (F.mulA hb hc Hv2.out _ (F.keep _ _ hTq hF.cls)).mono ?_
        rintro e w' ⟨rfl, hB⟩
        exact hK _ _ hB rfl
      · obtain rfl := Option.some.inj ho
        have f42 : ac.tmps.getD 42 undef = .agg (B32 (bdig a)) := hF.fact 27 _ _ rfl rfl (dep hd 27 (by kernel_rfl))
        have f45 : ac.tmps.getD 45 undef = .agg (B32 (bdig v2)) := hF.fact 30 _ _ rfl rfl (dep hd 30 (by kernel_rfl))
        have fg : ac.tmps.getD 38 undef = .bool true := hF.fact 23 _ _ rfl rfl (dep hd 23 (by kernel_rfl))
        refine ⟨wanted_true (g := 23) rfl rfl rfl fg, fun K hK => ?_⟩
        unfold Oper.wp
        go_simp
        refine (F.mulA ha hv2 Hv3.out _ (F.keep _ _ hTq hF.cls)).mono ?_
        rintro e w' ⟨rfl, hB⟩
        exact hK _ _ hB rfl
      · obtain rfl := Option.some.inj ho
        have f41 : ac.tmps.getD 41 undef = .agg (B32 (bdig v1)) := hF.fact 26 _ _ rfl rfl (dep hd 26 (by kernel_rfl))
        have f46 : ac.tmps.getD 46 undef = .agg (B32 (bdig v1)) := hF.fact 31 _ _ rfl rfl (dep hd 31 (by kernel_rfl))
        have fg : ac.tmps.getD 38 undef = .bool true := hF.fact 23 _ _ rfl rfl (dep hd 23 (by kernel_rfl))
        refine ⟨wanted_true (g := 23) rfl rfl rfl fg, fun K hK => ?_⟩
        unfold Oper.wp
        go_simp
        exact hK _ _ (Below.refl _ _) rfl
      · obtain rfl := Option.some.inj ho
        have f38 : ac.tmps.getD 38 undef = .bool true := hF.fact 23 _ _ rfl rfl (dep hd 23 (by kernel_rfl))
        have f47 : ac.tmps.getD 47 undef = .bool true := hF.fact 32 _ _ rfl rfl (dep hd 32 (by kernel_rfl))
        refine ⟨wanted_free rfl, fun K hK => ?_⟩
        unfold Oper.wp
        go_simp
        exact hK _ _ (Below.refl _ _) rfl
      · obtain rfl := Option.some.inj ho
        have f48 : ac.tmps.getD 48 undef = .bool true := hF.fact 33 _ _ rfl rfl (dep hd 33 (by kernel_rfl))
        refine ⟨wanted_free rfl, fun K hK => ?_⟩
        unfold Oper.wp
        go_simp
        exact hK _ _ (Below.refl _ _) rfl
      · obtain rfl := Option.some.inj ho
        have f3 : ac.tmps.getD 3 undef = .pointer (some ⟨bA, 0, none⟩) := slot hF 3 (by kernel_rfl)
        have fg : ac.tmps.getD 49 undef = .bool true := hF.fact 34 _ _ rfl rfl (dep hd 34 (by kernel_rfl))
        refine ⟨wanted_true (g := 34) rfl rfl rfl fg, fun K hK => ?_⟩
        exact wp_load_own 22 (.tmp 3) rfl bA f3 (B32 (bdig a)) _ 22 ((hKq.below hF.cls).at bA (B32 (bdig a)) 22 (by simp)) Tryd.underlying22 rfl (B32_info _) (hK _ _ (Below.refl _ _) rfl)
      · obtain rfl := Option.some.inj ho
        have f4 : ac.tmps.getD 4 undef = .pointer (some ⟨bB, 0, none⟩) := slot hF 4 (by kernel_rfl)
        have fg : ac.tmps.getD 49 undef = .bool true := hF.fact 34 _ _ rfl rfl (dep hd 34 (by kernel_rfl))
        refine ⟨wanted_true (g := 34) rfl rfl rfl fg, fun K hK => ?_⟩
        exact wp_load_own 22 (.tmp 4) rfl bB f4 (B32 (bdig b)) _ 22 ((hKq.below hF.cls).at bB (B32 (bdig b)) 22 (by simp)) Tryd.underlying22 rfl (B32_info _) (hK _ _ (Below.refl _ _) rfl)
      · obtain rfl := Option.some.inj ho
        have f50 : ac.tmps.getD 50 undef = .agg (B32 (bdig a)) := hF.fact 35 _ _ rfl rfl (dep hd 35 (by kernel_rfl))
        have f51 : ac.tmps.getD 51 undef = .agg (B32 (bdig b)) := hF.fact 36 _ _ rfl rfl (dep hd 36 (by kernel_rfl))
        have fg : ac.tmps.getD 49 undef = .bool true := hF.fact 34 _ _ rfl rfl (dep hd 34 (by kernel_rfl))
        refine ⟨wanted_true (g := 34) rfl rfl rfl fg, fun K hK => ?_⟩
        unfold Oper.wp
        go_simp
        refine (F.addA ha hb Hs.out _ (F.keep _ _ hTq hF.cls)).mono ?_
        rintro e w' ⟨rfl, hB⟩
        exact hK _ _ hB rfl
      · obtain rfl := Option.some.inj ho
        have f5 : ac.tmps.getD 5 undef = .pointer (some ⟨bC, 0, none⟩) := slot hF 5 (by kernel_rfl)
        have fg : ac.tmps.getD 49 undef = .bool true := hF.fact 34 _ _ rfl rfl (dep hd 34 (by kernel_rfl))
        refine ⟨wanted_true (g := 34) rfl rfl rfl fg, fun K hK => ?_⟩
        exact wp_load_own 22 (.tmp 5) rfl bC f5 (B32 (bdig c)) _ 22 ((hKq.below hF.cls).at bC (B32 (bdig c)) 22 (by simp)) Tryd.underlying22 rfl (B32_info _) (hK _ _ (Below.refl _ _) rfl)
      · obtain rfl := Option.some.inj ho
        have f52 : ac.tmps.getD 52 undef = .agg (B32 (bdig s)) := hF.fact 37 _ _ rfl rfl (dep hd 37 (by kernel_rfl))
        have f53 : ac.tmps.getD 53 undef = .agg (B32 (bdig c)) := hF.fact 38 _ _ rfl rfl (dep hd 38 (by kernel_rfl))
        have fg : ac.tmps.getD 49 undef = .bool true := hF.fact 34 _ _ rfl rfl (dep hd 34 (by kernel_rfl))
        refine ⟨wanted_true (g := 34) rfl rfl rfl fg, fun K hK => ?_⟩
        unfold Oper.wp
        go_simp
        refine (F.mulA hs hc Hq1.out _ (F.keep _ _ hTq hF.cls)).mono ?_
        rintro e w' ⟨rfl, hB⟩
        exact hK _ _ hB rfl
      · obtain rfl := Option.some.inj ho
        have f3 : ac.tmps.getD 3 undef = .pointer (some ⟨bA, 0, none⟩) := slot hF 3 (by kernel_rfl)
        have fg : ac.tmps.getD 49 undef = .bool true := hF.fact 34 _ _ rfl rfl (dep hd 34 (by kernel_rfl))
        refine ⟨wanted_true (g := 34) rfl rfl rfl fg, fun K hK => ?_⟩
        exact wp_load_own 22 (.tmp 3) rfl bA f3 (B32 (bdig a)) _ 22 ((hKq.below hF.cls).at bA (B32 (bdig a)) 22 (by simp)) Tryd.underlying22 rfl (B32_info _) (hK _ _ (Below.refl _ _) rfl)
      · obtain rfl := Option.some.inj ho
        have f5 : ac.tmps.getD 5 undef = .pointer (some ⟨bC, 0, none⟩) := slot hF 5 (by kernel_rfl)
        have fg : ac.tmps.getD 49 undef = .bool true := hF.fact 34 _ _ rfl rfl (dep hd 34 (by kernel_rfl))
        refine ⟨wanted_true (g := 34) rfl rfl rfl fg, fun K hK => ?_⟩
        exact wp_load_own 22 (.tmp 5) rfl bC f5 (B32 (bdig c)) _ 22 ((hKq.below hF.cls).at bC (B32 (bdig c)) 22 (by simp)) Tryd.underlying22 rfl (B32_info _) (hK _ _ (Below.refl _ _) rfl)
      · obtain rfl := Option.some.inj ho
        have f55 : ac.tmps.getD 55 undef = .agg (B32 (bdig a)) := hF.fact 40 _ _ rfl rfl (dep hd 40 (by kernel_rfl))
        have f56 : ac.tmps.getD 56 undef = .agg (B32 (bdig c)) := hF.fact 41 _ _ rfl rfl (dep hd 41 (by kernel_rfl))
        have fg : ac.tmps.getD 49 undef = .bool true := hF.fact 34 _ _ rfl rfl (dep hd 34 (by kernel_rfl))
        refine ⟨wanted_true (g := 34) rfl rfl rfl fg, fun K hK => ?_⟩
        unfold Oper.wp
        go_simp
        refine (F.mulA ha hc Hq2.out _ (F.keep _ _ hTq hF.cls)).mono ?_
        rintro e w' ⟨rfl, hB⟩
        exact hK _ _ hB rfl
      · obtain rfl := Option.some.inj ho
        have f4 : ac.tmps.getD 4 undef = .pointer (some ⟨bB, 0, none⟩) := slot hF 4 (by kernel_rfl)
        have fg : ac.tmps.getD 49 undef = .bool true := hF.fact 34 _ _ rfl rfl (dep hd 34 (by kernel_rfl))
        refine ⟨wanted_true (g := 34) rfl rfl rfl fg, fun K hK => ?_⟩
        exact wp_load_own 22 (.tmp 4) rfl bB f4 (B32 (bdig b)) _ 22 ((hKq.below hF.cls).at bB (B32 (bdig b)) 22 (by simp)) Tryd.underlying22 rfl (B32_info _) (hK _ _ (Below.refl _ _) rfl)
      · obtain rfl := Option.some.inj ho
        have f5 : ac.tmps.getD 5 undef = .pointer (some ⟨bC, 0, none⟩) := slot hF 5 (by kernel_rfl)
        have fg : ac.tmps.getD 49 undef = .bool true := hF.fact 34 _ _ rfl rfl (dep hd 34 (by kernel_rfl))
        refine ⟨wanted_true (g := 34) rfl rfl rfl fg, fun K hK => ?_⟩
        exact wp_load_own 22 (.tmp 5) rfl bC f5 (B32 (bdig c)) _ 22 ((hKq.below hF.cls).at bC (B32 (bdig c)) 22 (by simp)) Tryd.underlying22 rfl (B32_info _) (hK _ _ (Below.refl _ _) rfl)
      · obtain rfl := Option.some.inj ho
        have f58 : ac.tmps.getD 58 undef = .agg (B32 (bdig b)) := hF.fact 43 _ _ rfl rfl (dep hd 43 (by kernel_rfl))
        have f59 : ac.tmps.getD 59 undef = .agg (B32 (bdig c)) := hF.fact 44 _ _ rfl rfl (dep hd 44 (by kernel_rfl))
        have fg : ac.tmps.getD 49 undef = .bool true := hF.fact 34 _ _ rfl rfl (dep hd 34 (by kernel_rfl))
        refine ⟨wanted_true (g := 34) rfl rfl rfl fg, fun K hK => ?_⟩
        unfold Oper.wp
        go_simp
        refine (F.mulA hb hc Hv2.out _ (F.keep _ _ hTq hF.cls)).mono ?_
        rintro e w' ⟨rfl, hB⟩
        exact hK _ _ hB rfl
      · obtain rfl := Option.some.inj ho
        have f57 : ac.tmps.getD 57 undef = .agg (B32 (bdig q2)) := hF.fact 42 _ _ rfl rfl (dep hd 42 (by kernel_rfl))
        have f60 : ac.tmps.getD 60 undef = .agg (B32 (bdig v2)) := hF.fact 45 _ _ rfl rfl (dep hd 45 (by kernel_rfl))
        have fg : ac.tmps.getD 49 undef = .bool true := hF.fact 34 _ _ rfl rfl (dep hd 34 (by kernel_rfl))
        refine ⟨wanted_true (g := 34) rfl rfl rfl fg, fun K hK => ?_⟩
        unfold Oper.wp
        go_simp
        refine (F.addA hq2 hv2 Hq3.out _ (F.keep _ _ hTq hF.cls)).mono ?_
        rintro e w' ⟨rfl, hB⟩
        exact hK _ _ hB rfl
      · obtain rfl := Option.some.inj ho
        have f54 : ac.tmps.getD 54 undef = .agg (B32 (bdig q1)) := hF.fact 39 _ _ rfl rfl (dep hd 39 (by kernel_rfl))
        have f61 : ac.tmps.getD 61 undef = .agg (B32 (bdig q1)) := hF.fact 46 _ _ rfl rfl (dep hd 46 (by kernel_rfl))
        have fg : ac.tmps.getD 49 undef = .bool true := hF.fact 34 _ _ rfl rfl (dep hd 34 (by kernel_rfl))
        refine ⟨wanted_true (g := 34) rfl rfl rfl fg, fun K hK => ?_⟩
        unfold Oper.wp
        go_simp
        exact hK _ _ (Below.refl _ _) rfl
      · obtain rfl := Option.some.inj ho
        have f49 : ac.tmps.getD 49 undef = .bool true := hF.fact 34 _ _ rfl rfl (dep hd 34 (by kernel_rfl))
        have f62 : ac.tmps.getD 62 undef = .bool true := hF.fact 47 _ _ rfl rfl (dep hd 47 (by kernel_rfl))
        refine ⟨wanted_free rfl, fun K hK => ?_⟩
        unfold Oper.wp
        go_simp
        exact hK _ _ (Below.refl _ _) rfl
      · obtain rfl := Option.some.inj ho
        have f63 : ac.tmps.getD 63 undef = .bool true := hF.fact 48 _ _ rfl rfl (dep hd 48 (by kernel_rfl))
        refine ⟨wanted_free rfl, fun K hK => ?_⟩
        unfold Oper.wp
        go_simp
        exact hK _ _ (Below.refl _ _) rfl
      · obtain rfl := Option.some.inj ho
        have f7 : ac.tmps.getD 7 undef = .pointer (some ⟨bS, 0, none⟩) := slot hF 7 (by kernel_rfl)
        have fg : ac.tmps.getD 64 undef = .bool true := hF.fact 49 _ _ rfl rfl (dep hd 49 (by kernel_rfl))
        refine ⟨wanted_true (g := 49) rfl rfl rfl fg, fun K hK => ?_⟩
        exact wp_load_own 22 (.tmp 7) rfl bS f7 (B32 (bdig s)) _ 22 ((hKq.below hF.cls).at bS (B32 (bdig s)) 22 (by simp)) Tryd.underlying22 rfl (B32_info _) (hK _ _ (Below.refl _ _) rfl)
      · obtain rfl := Option.some.inj ho
        have f4 : ac.tmps.getD 4 undef = .pointer (some ⟨bB, 0, none⟩) := slot hF 4 (by kernel_rfl)
        have fg : ac.tmps.getD 64 undef = .bool true := hF.fact 49 _ _ rfl rfl (dep hd 49 (by kernel_rfl))
        refine ⟨wanted_true (g := 49) rfl rfl rfl fg, fun K hK => ?_⟩
        exact wp_load_own 22 (.tmp 4) rfl bB f4 (B32 (bdig b)) _ 22 ((hKq.below hF.cls).at bB (B32 (bdig b)) 22 (by simp)) Tryd.underlying22 rfl (B32_info _) (hK _ _ (Below.refl _ _) rfl)
      · obtain rfl := Option.some.inj ho
        have f65 : ac.tmps.getD 65 undef = .agg (B32 (bdig s)) := hF.fact 50 _ _ rfl rfl (dep hd 50 (by kernel_rfl))
        have f66 : ac.tmps.getD 66 undef = .agg (B32 (bdig b)) := hF.fact 51 _ _ rfl rfl (dep hd 51 (by kernel_rfl))
        have fg : ac.tmps.getD 64 undef = .bool true := hF.fact 49 _ _ rfl rfl (dep hd 49 (by kernel_rfl))
        refine ⟨wanted_true (g := 49) rfl rfl rfl fg, fun K hK => ?_⟩
        unfold Oper.wp
        go_simp
        refine (F.subA hs hb Hm2.out _ (F.keep _ _ hTq hF.cls)).mono ?_
        rintro e w' ⟨rfl, hB⟩
        exact hK _ _ hB rfl
      · obtain rfl := Option.some.inj ho
        have f3 : ac.tmps.getD 3 undef = .pointer (some ⟨bA, 0, none⟩) := slot hF 3 (by kernel_rfl)
        have fg : ac.tmps.getD 64 undef = .bool true := hF.fact 49 _ _ rfl rfl (dep hd 49 (by kernel_rfl))
        refine ⟨wanted_true (g := 49) rfl rfl rfl fg, fun K hK => ?_⟩
        exact wp_load_own 22 (.tmp 3) rfl bA f3 (B32 (bdig a)) _ 22 ((hKq.below hF.cls).at bA (B32 (bdig a)) 22 (by simp)) Tryd.underlying22 rfl (B32_info _) (hK _ _ (Below.refl _ _) rfl)
      · obtain rfl := Option.some.inj ho
        have f68 : ac.tmps.getD 68 undef = .agg (B32 (bdig a)) := hF.fact 53 _ _ rfl rfl (dep hd 53 (by kernel_rfl))
        have fg : ac.tmps.getD 64 undef = .bool true := hF.fact 49 _ _ rfl rfl (dep hd 49 (by kernel_rfl))
        refine ⟨wanted_true (g := 49) rfl rfl rfl fg, fun K hK => ?_⟩
        unfold Oper.wp
        go_simp
        refine (F.modA ha Hm.out _ (F.keep _ _ hTq hF.cls)).mono ?_
        rintro e w' ⟨rfl, hB⟩
        exact hK _ _ hB rfl
      · obtain rfl := Option.some.inj ho
        have f67 : ac.tmps.getD 67 undef = .agg (B32 (bdig m)) := hF.fact 52 _ _ rfl rfl (dep hd 52 (by kernel_rfl))
        have f69 : ac.tmps.getD 69 undef = .agg (B32 (bdig m)) := hF.fact 54 _ _ rfl rfl (dep hd 54 (by kernel_rfl))
        have fg : ac.tmps.getD 64 undef = .bool true := hF.fact 49 _ _ rfl rfl (dep hd 49 (by kernel_rfl))
        refine ⟨wanted_true (g := 49) rfl rfl rfl fg, fun K hK => ?_⟩
        unfold Oper.wp
        go_simp
        exact hK _ _ (Below.refl _ _) rfl
      · obtain rfl := Option.some.inj ho
        have f64 : ac.tmps.getD 64 undef = .bool true := hF.fact 49 _ _ rfl rfl (dep hd 49 (by kernel_rfl))
        have f70 : ac.tmps.getD 70 undef = .bool true := hF.fact 55 _ _ rfl rfl (dep hd 55 (by kernel_rfl))
        refine ⟨wanted_free rfl, fun K hK => ?_⟩
        unfold Oper.wp
        go_simp
        exact hK _ _ (Below.refl _ _) rfl
      · obtain rfl := Option.some.inj ho
        have f71 : ac.tmps.getD 71 undef = .bool true := hF.fact 56 _ _ rfl rfl (dep hd 56 (by kernel_rfl))
        refine ⟨wanted_free rfl, fun K hK => ?_⟩
        unfold Oper.wp
        go_simp
        exact hK _ _ (Below.refl _ _) rfl
      · obtain rfl := Option.some.inj ho
        have f3 : ac.tmps.getD 3 undef = .pointer (some ⟨bA, 0, none⟩) := slot hF 3 (by kernel_rfl)
        have fg : ac.tmps.getD 72 undef = .bool true := hF.fact 57 _ _ rfl rfl (dep hd 57 (by kernel_rfl))
        refine ⟨wanted_true (g := 57) rfl rfl rfl fg, fun K hK => ?_⟩
        exact wp_load_own 22 (.tmp 3) rfl bA f3 (B32 (bdig a)) _ 22 ((hKq.below hF.cls).at bA (B32 (bdig a)) 22 (by simp)) Tryd.underlying22 rfl (B32_info _) (hK _ _ (Below.refl _ _) rfl)
      · obtain rfl := Option.some.inj ho
        have f3 : ac.tmps.getD 3 undef = .pointer (some ⟨bA, 0, none⟩) := slot hF 3 (by kernel_rfl)
        have fg : ac.tmps.getD 72 undef = .bool true := hF.fact 57 _ _ rfl rfl (dep hd 57 (by kernel_rfl))
        refine ⟨wanted_true (g := 57) rfl rfl rfl fg, fun K hK => ?_⟩
        exact wp_load_own 22 (.tmp 3) rfl bA f3 (B32 (bdig a)) _ 22 ((hKq.below hF.cls).at bA (B32 (bdig a)) 22 (by simp)) Tryd.underlying22 rfl (B32_info _) (hK _ _ (Below.refl _ _) rfl)
      · obtain rfl := Option.some.inj ho
        have f73 : ac.tmps.getD 73 undef = .agg (B32 (bdig a)) := hF.fact 58 _ _ rfl rfl (dep hd 58 (by kernel_rfl))
        have f74 : ac.tmps.getD 74 undef = .agg (B32 (bdig a)) := hF.fact 59 _ _ rfl rfl (dep hd 59 (by kernel_rfl))
        have fg : ac.tmps.getD 72 undef = .bool true := hF.fact 57 _ _ rfl rfl (dep hd 57 (by kernel_rfl))
        refine ⟨wanted_true (g := 57) rfl rfl rfl fg, fun K hK => ?_⟩
        unfold Oper.wp
        go_simp
        refine (F.subA ha ha Hz.out _ (F.keep _ _ hTq hF.cls)).mono ?_
        rintro e w' ⟨rfl, hB⟩
        exact hK _ _ hB rfl
      · obtain rfl := Option.some.inj ho
        have fg : ac.tmps.getD 72 undef = .bool true := hF.fact 57 _ _ rfl rfl (dep hd 57 (by kernel_rfl))
        refine ⟨wanted_true (g := 57) rfl rfl rfl fg, fun K hK => ?_⟩
        unfold Oper.wp
        go_simp
        refine (num_any 0 (by decide) _).mono ?_
        rintro e w' ⟨rfl, hB⟩
        exact hK _ _ hB rfl
      · obtain rfl := Option.some.inj ho
        have f75 : ac.tmps.getD 75 undef = .agg (B32 (bdig 0)) := hF.fact 60 _ _ rfl rfl (dep hd 60 (by kernel_rfl))
        have f76 : ac.tmps.getD 76 undef = .agg (B32 (bdig 0)) := hF.fact 61 _ _ rfl rfl (dep hd 61 (by kernel_rfl))
        have fg : ac.tmps.getD 72 undef = .bool true := hF.fact 57 _ _ rfl rfl (dep hd 57 (by kernel_rfl))
        refine ⟨wanted_true (g := 57) rfl rfl rfl fg, fun K hK => ?_⟩
        unfold Oper.wp
        go_simp
        exact hK _ _ (Below.refl _ _) rfl
      · obtain rfl := Option.some.inj ho
        have f72 : ac.tmps.getD 72 undef = .bool true := hF.fact 57 _ _ rfl rfl (dep hd 57 (by kernel_rfl))
        have f77 : ac.tmps.getD 77 undef = .bool true := hF.fact 62 _ _ rfl rfl (dep hd 62 (by kernel_rfl))
        refine ⟨wanted_free rfl, fun K hK => ?_⟩
        unfold Oper.wp
        go_simp
        exact hK _ _ (Below.refl _ _) rfl
      · obtain rfl := Option.some.inj ho
        have f78 : ac.tmps.getD 78 undef = .bool true := hF.fact 63 _ _ rfl rfl (dep hd 63 (by kernel_rfl))
        refine ⟨wanted_free rfl, fun K hK => ?_⟩
        unfold Oper.wp
        go_simp
        exact hK _ _ (Below.refl _ _) rfl
      · obtain rfl := Option.some.inj ho
        have f3 : ac.tmps.getD 3 undef = .pointer (some ⟨bA, 0, none⟩) := slot hF 3 (by kernel_rfl)
        have fg : ac.tmps.getD 79 undef = .bool true := hF.fact 64 _ _ rfl rfl (dep hd 64 (by kernel_rfl))
        refine ⟨wanted_true (g := 64) rfl rfl rfl fg, fun K hK => ?_⟩
        exact wp_load_own 22 (.tmp 3) rfl bA f3 (B32 (bdig a)) _ 22 ((hKq.below hF.cls).at bA (B32 (bdig a)) 22 (by simp)) Tryd.underlying22 rfl (B32_info _) (hK _ _ (Below.refl _ _) rfl)
      · obtain rfl := Option.some.inj ho
        have f4 : ac.tmps.getD 4 undef = .pointer (some ⟨bB, 0, none⟩) := slot hF 4 (by kernel_rfl)
        have fg : ac.tmps.getD 79 undef = .bool true := hF.fact 64 _ _ rfl rfl (dep hd 64 (by kernel_rfl))
        refine ⟨wanted_true (g := 64) rfl rfl rfl fg, fun K hK => ?_⟩
        exact wp_load_own 22 (.tmp 4) rfl bB f4 (B32 (bdig b)) _ 22 ((hKq.below hF.cls).at bB (B32 (bdig b)) 22 (by simp)) Tryd.underlying22 rfl (B32_info _) (hK _ _ (Below.refl _ _) rfl)
      · obtain rfl := Option.some.inj ho
        have f80 : ac.tmps.getD 80 undef = .agg (B32 (bdig a)) := hF.fact 65 _ _ rfl rfl (dep hd 65 (by kernel_rfl))
        have f81 : ac.tmps.getD 81 undef = .agg (B32 (bdig b)) := hF.fact 66 _ _ rfl rfl (dep hd 66 (by kernel_rfl))
        have fg : ac.tmps.getD 79 undef = .bool true := hF.fact 64 _ _ rfl rfl (dep hd 64 (by kernel_rfl))
        refine ⟨wanted_true (g := 64) rfl rfl rfl fg, fun K hK => ?_⟩
        unfold Oper.wp
        go_simp
        refine (F.subA ha hb Hd.out _ (F.keep _ _ hTq hF.cls)).mono ?_
        rintro e w' ⟨rfl, hB⟩
        exact hK _ _ hB rfl
      · obtain rfl := Option.some.inj ho
        have f4 : ac.tmps.getD 4 undef = .pointer (some ⟨bB, 0, none⟩) := slot hF 4 (by kernel_rfl)
        have fg : ac.tmps.getD 79 undef = .bool true := hF.fact 64 _ _ rfl rfl (dep hd 64 (by kernel_rfl))
        refine ⟨wanted_true (g := 64) rfl rfl rfl fg, fun K hK => ?_⟩
        exact wp_load_own 22 (.tmp 4) rfl bB f4 (B32 (bdig b)) _ 22 ((hKq.below hF.cls).at bB (B32 (bdig b)) 22 (by simp)) Tryd.underlying22 rfl (B32_info _) (hK _ _ (Below.refl _ _) rfl)
      · obtain rfl := Option.some.inj ho
        have f82 : ac.tmps.getD 82 undef = .agg (B32 (bdig dd)) := hF.fact 67 _ _ rfl rfl (dep hd 67 (by kernel_rfl))
        have f83 : ac.tmps.getD 83 undef = .agg (B32 (bdig b)) := hF.fact 68 _ _ rfl rfl (dep hd 68 (by kernel_rfl))
        have fg : ac.tmps.getD 79 undef = .bool true := hF.fact 64 _ _ rfl rfl (dep hd 64 (by kernel_rfl))
        refine ⟨wanted_true (g := 64) rfl rfl rfl fg, fun K hK => ?_⟩
        unfold Oper.wp
        go_simp
        refine (F.addA hdd hb Hm3.out _ (F.keep _ _ hTq hF.cls)).mono ?_
        rintro e w' ⟨rfl, hB⟩
        exact hK _ _ hB rfl
      · obtain rfl := Option.some.inj ho
        have f3 : ac.tmps.getD 3 undef = .pointer (some ⟨bA, 0, none⟩) := slot hF 3 (by kernel_rfl)
        have fg : ac.tmps.getD 79 undef = .bool true := hF.fact 64 _ _ rfl rfl (dep hd 64 (by kernel_rfl))
        refine ⟨wanted_true (g := 64) rfl rfl rfl fg, fun K hK => ?_⟩
        exact wp_load_own 22 (.tmp 3) rfl bA f3 (B32 (bdig a)) _ 22 ((hKq.below hF.cls).at bA (B32 (bdig a)) 22 (by simp)) Tryd.underlying22 rfl (B32_info _) (hK _ _ (Below.refl _ _) rfl)
      · obtain rfl := Option.some.inj ho
        have f85 : ac.tmps.getD 85 undef = .agg (B32 (bdig a)) := hF.fact 70 _ _ rfl rfl (dep hd 70 (by kernel_rfl))
        have fg : ac.tmps.getD 79 undef = .bool true := hF.fact 64 _ _ rfl rfl (dep hd 64 (by kernel_rfl))
        refine ⟨wanted_true (g := 64) rfl rfl rfl fg, fun K hK => ?_⟩
        unfold Oper.wp
        go_simp
        refine (F.modA ha Hm.out _ (F.keep _ _ hTq hF.cls)).mono ?_
        rintro e w' ⟨rfl, hB⟩
        exact hK _ _ hB rfl
      · obtain rfl := Option.some.inj ho
        have f84 : ac.tmps.getD 84 undef = .agg (B32 (bdig m)) := hF.fact 69 _ _ rfl rfl (dep hd 69 (by kernel_rfl))
        have f86 : ac.tmps.getD 86 undef = .agg (B32 (bdig m)) := hF.fact 71 _ _ rfl rfl (dep hd 71 (by kernel_rfl))
        have fg : ac.tmps.getD 79 undef = .bool true := hF.fact 64 _ _ rfl rfl (dep hd 64 (by kernel_rfl))
        refine ⟨wanted_true (g := 64) rfl rfl rfl fg, fun K hK => ?_⟩
        unfold Oper.wp
        go_simp
        exact hK _ _ (Below.refl _ _) rfl
      · obtain rfl := Option.some.inj ho
        have f79 : ac.tmps.getD 79 undef = .bool true := hF.fact 64 _ _ rfl rfl (dep hd 64 (by kernel_rfl))
        have f87 : ac.tmps.getD 87 undef = .bool true := hF.fact 72 _ _ rfl rfl (dep hd 72 (by kernel_rfl))
        refine ⟨wanted_free rfl, fun K hK => ?_⟩
        unfold Oper.wp
        go_simp
        exact hK _ _ (Below.refl _ _) rfl
      · obtain rfl := Option.some.inj ho
        have f88 : ac.tmps.getD 88 undef = .bool true := hF.fact 73 _ _ rfl rfl (dep hd 73 (by kernel_rfl))
        refine ⟨wanted_free rfl, fun K hK => ?_⟩
        unfold Oper.wp
        go_simp
        exact hK _ _ (Below.refl _ _) rfl
      · obtain rfl := Option.some.inj ho
        have f7 : ac.tmps.getD 7 undef = .pointer (some ⟨bS, 0, none⟩) := slot hF 7 (by kernel_rfl)
        have fg : ac.tmps.getD 89 undef = .bool true := hF.fact 74 _ _ rfl rfl (dep hd 74 (by kernel_rfl))
        refine ⟨wanted_true (g := 74) rfl rfl rfl fg, fun K hK => ?_⟩
        exact wp_load_own 22 (.tmp 7) rfl bS f7 (B32 (bdig s)) _ 22 ((hKq.below hF.cls).at bS (B32 (bdig s)) 22 (by simp)) Tryd.underlying22 rfl (B32_info _) (hK _ _ (Below.refl _ _) rfl)
      · obtain rfl := Option.some.inj ho
        have f90 : ac.tmps.getD 90 undef = .agg (B32 (bdig s)) := hF.fact 75 _ _ rfl rfl (dep hd 75 (by kernel_rfl))
        have fg : ac.tmps.getD 89 undef = .bool true := hF.fact 74 _ _ rfl rfl (dep hd 74 (by kernel_rfl))
        refine ⟨wanted_true (g := 74) rfl rfl rfl fg, fun K hK => ?_⟩
        unfold Oper.wp
        go_simp
        refine (F.check s hs _ (F.keep _ _ hTq hF.cls)).mono ?_
        rintro e w' ⟨rfl, hB⟩
        rw [decide_eq_true hls]
        exact hK _ _ hB rfl
      · obtain rfl := Option.some.inj ho
        have f89 : ac.tmps.getD 89 undef = .bool true := hF.fact 74 _ _ rfl rfl (dep hd 74 (by kernel_rfl))
        have f91 : ac.tmps.getD 91 undef = .bool true := hF.fact 76 _ _ rfl rfl (dep hd 76 (by kernel_rfl))
        refine ⟨wanted_free rfl, fun K hK => ?_⟩
        unfold Oper.wp
        go_simp
        exact hK _ _ (Below.refl _ _) rfl
      · obtain rfl := Option.some.inj ho
        have f92 : ac.tmps.getD 92 undef = .bool true := hF.fact 77 _ _ rfl rfl (dep hd 77 (by kernel_rfl))
        refine ⟨wanted_free rfl, fun K hK => ?_⟩
        unfold Oper.wp
        go_simp
        exact hK _ _ (Below.refl _ _) rfl
      · obtain rfl := Option.some.inj ho
        have f8 : ac.tmps.getD 8 undef = .pointer (some ⟨bP, 0, none⟩) := slot hF 8 (by kernel_rfl)
        have fg : ac.tmps.getD 93 undef = .bool true := hF.fact 78 _ _ rfl rfl (dep hd 78 (by kernel_rfl))
        refine ⟨wanted_true (g := 78) rfl rfl rfl fg, fun K hK => ?_⟩
        exact wp_load_own 22 (.tmp 8) rfl bP f8 (B32 (bdig p)) _ 22 ((hKq.below hF.cls).at bP (B32 (bdig p)) 22 (by simp)) Tryd.underlying22 rfl (B32_info _) (hK _ _ (Below.refl _ _) rfl)
      · obtain rfl := Option.some.inj ho
        have f94 : ac.tmps.getD 94 undef = .agg (B32 (bdig p)) := hF.fact 79 _ _ rfl rfl (dep hd 79 (by kernel_rfl))
        have fg : ac.tmps.getD 93 undef = .bool true := hF.fact 78 _ _ rfl rfl (dep hd 78 (by kernel_rfl))
        refine ⟨wanted_true (g := 78) rfl rfl rfl fg, fun K hK => ?_⟩
        unfold Oper.wp
        go_simp
        refine (F.check p hp _ (F.keep _ _ hTq hF.cls)).mono ?_
        rintro e w' ⟨rfl, hB⟩
        rw [decide_eq_true hlp]
        exact hK _ _ hB rfl
      · obtain rfl := Option.some.inj ho
        have f93 : ac.tmps.getD 93 undef = .bool true := hF.fact 78 _ _ rfl rfl (dep hd 78 (by kernel_rfl))
        have f95 : ac.tmps.getD 95 undef = .bool true := hF.fact 80 _ _ rfl rfl (dep hd 80 (by kernel_rfl))
        refine ⟨wanted_free rfl, fun K hK => ?_⟩
        unfold Oper.wp
        go_simp
        exact hK _ _ (Below.refl _ _) rfl
      · obtain rfl := Option.some.inj ho
        have f96 : ac.tmps.getD 96 undef = .bool true := hF.fact 81 _ _ rfl rfl (dep hd 81 (by kernel_rfl))
        refine ⟨wanted_free rfl, fun K hK => ?_⟩
        unfold Oper.wp
        go_simp
        exact hK _ _ (Below.refl _ _) rfl
      · obtain rfl := Option.some.inj ho
        have f3 : ac.tmps.getD 3 undef = .pointer (some ⟨bA, 0, none⟩) := slot hF 3 (by kernel_rfl)
        have fg : ac.tmps.getD 97 undef = .bool true := hF.fact 82 _ _ rfl rfl (dep hd 82 (by kernel_rfl))
        refine ⟨wanted_true (g := 82) rfl rfl rfl fg, fun K hK => ?_⟩
        exact wp_load_own 22 (.tmp 3) rfl bA f3 (B32 (bdig a)) _ 22 ((hKq.below hF.cls).at bA (B32 (bdig a)) 22 (by simp)) Tryd.underlying22 rfl (B32_info _) (hK _ _ (Below.refl _ _) rfl)
      · obtain rfl := Option.some.inj ho
        have f4 : ac.tmps.getD 4 undef = .pointer (some ⟨bB, 0, none⟩) := slot hF 4 (by kernel_rfl)
        have fg : ac.tmps.getD 97 undef = .bool true := hF.fact 82 _ _ rfl rfl (dep hd 82 (by kernel_rfl))
        refine ⟨wanted_true (g := 82) rfl rfl rfl fg, fun K hK => ?_⟩
        exact wp_load_own 22 (.tmp 4) rfl bB f4 (B32 (bdig b)) _ 22 ((hKq.below hF.cls).at bB (B32 (bdig b)) 22 (by simp)) Tryd.underlying22 rfl (B32_info _) (hK _ _ (Below.refl _ _) rfl)
      · obtain rfl := Option.some.inj ho
        have f98 : ac.tmps.getD 98 undef = .agg (B32 (bdig a)) := hF.fact 83 _ _ rfl rfl (dep hd 83 (by kernel_rfl))
        have f99 : ac.tmps.getD 99 undef = .agg (B32 (bdig b)) := hF.fact 84 _ _ rfl rfl (dep hd 84 (by kernel_rfl))
        have fg : ac.tmps.getD 97 undef = .bool true := hF.fact 82 _ _ rfl rfl (dep hd 82 (by kernel_rfl))
        refine ⟨wanted_true (g := 82) rfl rfl rfl fg, fun K hK => ?_⟩
        unfold Oper.wp
        go_simp
        refine (F.subA ha hb Hd.out _ (F.keep _ _ hTq hF.cls)).mono ?_
        rintro e w' ⟨rfl, hB⟩
        exact hK _ _ hB rfl
      · obtain rfl := Option.some.inj ho
        have f100 : ac.tmps.getD 100 undef = .agg (B32 (bdig dd)) := hF.fact 85 _ _ rfl rfl (dep hd 85 (by kernel_rfl))
        have fg : ac.tmps.getD 97 undef = .bool true := hF.fact 82 _ _ rfl rfl (dep hd 82 (by kernel_rfl))
        refine ⟨wanted_true (g := 82) rfl rfl rfl fg, fun K hK => ?_⟩
        unfold Oper.wp
        go_simp
        refine (F.check dd hdd _ (F.keep _ _ hTq hF.cls)).mono ?_
        rintro e w' ⟨rfl, hB⟩
        rw [decide_eq_true hldd]
        exact hK _ _ hB rfl
      · obtain rfl := Option.some.inj ho
        have f97 : ac.tmps.getD 97 undef = .bool true := hF.fact 82 _ _ rfl rfl (dep hd 82 (by kernel_rfl))
        have f101 : ac.tmps.getD 101 undef = .bool true := hF.fact 86 _ _ rfl rfl (dep hd 86 (by kernel_rfl))
        refine ⟨wanted_free rfl, fun K hK => ?_⟩
        unfold Oper.wp
        go_simp
        exact hK _ _ (Below.refl _ _) rfl
      · obtain rfl := Option.some.inj ho
        have f102 : ac.tmps.getD 102 undef = .bool true := hF.fact 87 _ _ rfl rfl (dep hd 87 (by kernel_rfl))
        refine ⟨wanted_free rfl, fun K hK => ?_⟩
        unfold Oper.wp
        go_simp
        exact hK _ _ (Below.refl _ _) rfl
      · obtain rfl := Option.some.inj ho
        have f3 : ac.tmps.getD 3 undef = .pointer (some ⟨bA, 0, none⟩) := slot hF 3 (by kernel_rfl)
        have fg : ac.tmps.getD 103 undef = .bool true := hF.fact 88 _ _ rfl rfl (dep hd 88 (by kernel_rfl))
        refine ⟨wanted_true (g := 88) rfl rfl rfl fg, fun K hK => ?_⟩
        exact wp_load_own 22 (.tmp 3) rfl bA f3 (B32 (bdig a)) _ 22 ((hKq.below hF.cls).at bA (B32 (bdig a)) 22 (by simp)) Tryd.underlying22 rfl (B32_info _) (hK _ _ (Below.refl _ _) rfl)
      · obtain rfl := Option.some.inj ho
        have f104 : ac.tmps.getD 104 undef = .agg (B32 (bdig a)) := hF.fact 89 _ _ rfl rfl (dep hd 89 (by kernel_rfl))
        have fg : ac.tmps.getD 103 undef = .bool true := hF.fact 88 _ _ rfl rfl (dep hd 88 (by kernel_rfl))
        refine ⟨wanted_true (g := 88) rfl rfl rfl fg, fun K hK => ?_⟩
        unfold Oper.wp
        go_simp
        refine (F.modA ha Hm.out _ (F.keep _ _ hTq hF.cls)).mono ?_
        rintro e w' ⟨rfl, hB⟩
        exact hK _ _ hB rfl
      · obtain rfl := Option.some.inj ho
        have f105 : ac.tmps.getD 105 undef = .agg (B32 (bdig m)) := hF.fact 90 _ _ rfl rfl (dep hd 90 (by kernel_rfl))
        have fg : ac.tmps.getD 103 undef = .bool true := hF.fact 88 _ _ rfl rfl (dep hd 88 (by kernel_rfl))
        refine ⟨wanted_true (g := 88) rfl rfl rfl fg, fun K hK => ?_⟩
        unfold Oper.wp
        go_simp
        refine (F.modA hm Hm4.out _ (F.keep _ _ hTq hF.cls)).mono ?_
        rintro e w' ⟨rfl, hB⟩
        exact hK _ _ hB rfl
      · obtain rfl := Option.some.inj ho
        have f3 : ac.tmps.getD 3 undef = .pointer (some ⟨bA, 0, none⟩) := slot hF 3 (by kernel_rfl)
        have fg : ac.tmps.getD 103 undef = .bool true := hF.fact 88 _ _ rfl rfl (dep hd 88 (by kernel_rfl))
        refine ⟨wanted_true (g := 88) rfl rfl rfl fg, fun K hK => ?_⟩
        exact wp_load_own 22 (.tmp 3) rfl bA f3 (B32 (bdig a)) _ 22 ((hKq.below hF.cls).at bA (B32 (bdig a)) 22 (by simp)) Tryd.underlying22 rfl (B32_info _) (hK _ _ (Below.refl _ _) rfl)
      · obtain rfl := Option.some.inj ho
        have f107 : ac.tmps.getD 107 undef = .agg (B32 (bdig a)) := hF.fact 92 _ _ rfl rfl (dep hd 92 (by kernel_rfl))
        have fg : ac.tmps.getD 103 undef = .bool true := hF.fact 88 _ _ rfl rfl (dep hd 88 (by kernel_rfl))
        refine ⟨wanted_true (g := 88) rfl rfl rfl fg, fun K hK => ?_⟩
        unfold Oper.wp
        go_simp
        refine (F.modA ha Hm.out _ (F.keep _ _ hTq hF.cls)).mono ?_
        rintro e w' ⟨rfl, hB⟩
        exact hK _ _ hB rfl
      · obtain rfl := Option.some.inj ho
        have f106 : ac.tmps.getD 106 undef = .agg (B32 (bdig m)) := hF.fact 91 _ _ rfl rfl (dep hd 91 (by kernel_rfl))
        have f108 : ac.tmps.getD 108 undef = .agg (B32 (bdig m)) := hF.fact 93 _ _ rfl rfl (dep hd 93 (by kernel_rfl))
        have fg : ac.tmps.getD 103 undef = .bool true := hF.fact 88 _ _ rfl rfl (dep hd 88 (by kernel_rfl))
        refine ⟨wanted_true (g := 88) rfl rfl rfl fg, fun K hK => ?_⟩
        unfold Oper.wp
        go_simp
        exact hK _ _ (Below.refl _ _) rfl
      · obtain rfl := Option.some.inj ho
        have f103 : ac.tmps.getD 103 undef = .bool true := hF.fact 88 _ _ rfl rfl (dep hd 88 (by kernel_rfl))
        have f109 : ac.tmps.getD 109 undef = .bool true := hF.fact 94 _ _ rfl rfl (dep hd 94 (by kernel_rfl))
        refine ⟨wanted_free rfl, fun K hK => ?_⟩
        unfold Oper.wp
        go_simp
        exact hK _ _ (Below.refl _ _) rfl
      · obtain rfl := Option.some.inj ho
        have f110 : ac.tmps.getD 110 undef = .bool true := hF.fact 95 _ _ rfl rfl (dep hd 95 (by kernel_rfl))
        refine ⟨wanted_free rfl, fun K hK => ?_⟩
        unfold Oper.wp
        go_simp
        exact hK _ _ (Below.refl _ _) rfl
      · obtain rfl := Option.some.inj ho
        have fg : ac.tmps.getD 111 undef = .bool true := hF.fact 96 _ _ rfl rfl (dep hd 96 (by kernel_rfl))
        refine ⟨wanted_true (g := 96) rfl rfl rfl fg, fun K hK => ?_⟩
        unfold Oper.wp
        go_simp
        refine (wakes_any F _ (F.keep _ _ hTq hF.cls)).mono ?_
        rintro e w' ⟨rfl, hB⟩
        exact hK _ _ hB rfl
      · obtain rfl := Option.some.inj ho
        have f111 : ac.tmps.getD 111 undef = .bool true := hF.fact 96 _ _ rfl rfl (dep hd 96 (by kernel_rfl))
        have f112 : ac.tmps.getD 112 undef = .bool true := hF.fact 97 _ _ rfl rfl (dep hd 97 (by kernel_rfl))
        refine ⟨wanted_free rfl, fun K hK => ?_⟩
        unfold Oper.wp
        go_simp
        exact hK _ _ (Below.refl _ _) rfl
      · obtain rfl := Option.some.inj ho
        have f113 : ac.tmps.getD 113 undef = .bool true := hF.fact 98 _ _ rfl rfl (dep hd 98 (by kernel_rfl))
        refine ⟨wanted_free rfl, fun K hK => ?_⟩
        unfold Oper.wp
        go_simp
        exact hK _ _ (Below.refl _ _) rfl
      · cases ho
    · intro L ac wc hL hF
      have f6 : ac.tmps.getD 6 undef = .bool true := hF.fact 99 _ 6 rfl rfl (hL 99 (by decide))
      have hb' := (hKq.below hF.cls).2
      go_wp2
      exact bodyPost_ret (results_tmp rfl _ _ _) hF.defers ⟨by rw [f6], hb'⟩
end Go.Proofs.YtaefjbklioljnaaDoor
