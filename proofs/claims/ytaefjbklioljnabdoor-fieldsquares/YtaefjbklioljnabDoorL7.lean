/- The walk of the law FieldSquares, over the program's functions by their contracts. -/
import Derived.Test.YtaefjbklioljnabDoorF11
import Derived.Test.YtaefjbklioljnabDoorE14
namespace Go.Proofs.YtaefjbklioljnabDoor
open Go.RowKit
theorem dif_case {x y q : Nat} (hy : y < q) (hx : x < q) : (x + q - y) % q = if y ≤ x then x - y else x + q - y := by
  split
  · rw [show x + q - y = (x - y) + q by omega, Nat.add_mod_right, Nat.mod_eq_of_lt (by omega)]
  · exact Nat.mod_eq_of_lt (by omega)
theorem dif_of {x y q r : Nat} (hy : y < q) (hx : x < q) (hr : r < q) (h : (r + y) % q = x) : (x + q - y) % q = r := by
  rw [dif_case hy hx]
  have : r + y < 2 * q := by omega
  rcases Nat.lt_or_ge (r + y) q with h1 | h1
  · rw [Nat.mod_eq_of_lt h1] at h
    rw [if_pos (by omega)]; omega
  · rw [Nat.mod_eq_sub_mod h1, Nat.mod_eq_of_lt (by omega)] at h
    rw [if_neg (by omega)]; omega
theorem dif_back {x y q : Nat} (hy : y < q) (hx : x < q) : ((x + q - y) % q + y) % q = x := by
  rw [dif_case hy hx]
  split
  · rw [Nat.sub_add_cancel (by assumption), Nat.mod_eq_of_lt hx]
  · rw [Nat.sub_add_cancel (by omega), Nat.add_mod_right, Nat.mod_eq_of_lt hx]
theorem dif_add (a b : Nat) : ((a % pp + pp - b % pp) % pp + b) % pp = a % pp := by
  rw [← Nat.add_mod_mod]
  exact dif_back (Nat.mod_lt _ pp_pos) (Nat.mod_lt _ pp_pos)
theorem sq_diff (a b : Nat) : (a % pp + pp - b % pp) % pp * ((a + b) % pp) % pp = (a * a % pp % pp + pp - b * b % pp % pp) % pp := by
  have hd := dif_add a b
  generalize (a % pp + pp - b % pp) % pp = d at *
  rw [Nat.mod_mod, Nat.mod_mod]
  refine (dif_of (Nat.mod_lt _ pp_pos) (Nat.mod_lt _ pp_pos) (Nat.mod_lt _ pp_pos) ?_).symm
  rw [Nat.mul_mod_mod, ← Nat.add_mod, Nat.mul_add, Nat.add_assoc, ← Nat.add_mul]
  rw [Nat.add_mod (d * a), Nat.mul_mod (d + b), hd, ← Nat.mul_mod, ← Nat.add_mod, Nat.mul_comm d a, ← Nat.mul_add, Nat.mul_mod, hd, ← Nat.mul_mod]
theorem neg_back (a : Nat) : ((0 % pp + pp - a % pp) % pp + a) % pp = 0 := by rw [dif_add, Nat.zero_mod]
theorem neg_add (a : Nat) : (a + (0 % pp + pp - a % pp) % pp) % pp = 0 := by rw [Nat.add_comm]; exact neg_back a
theorem mod_zero_mul {x : Nat} (h : x % pp = 0) (y : Nat) : y * x % pp = 0 := by rw [Nat.mul_mod, h, Nat.mul_zero, Nat.zero_mod]
theorem add_zero_cancel {x y z : Nat} (h1 : (x + z) % pp = 0) (h2 : (z + y) % pp = 0) : x % pp = y % pp := by
  have h3 : (x + (z + y)) % pp = x % pp := by rw [Nat.add_mod, h2, Nat.add_zero, Nat.mod_mod]
  have h4 : (x + z + y) % pp = y % pp := by rw [Nat.add_mod, h1, Nat.zero_add, Nat.mod_mod]
  rw [← h3, ← h4, Nat.add_assoc]
theorem sq_neg (a : Nat) : (0 % pp + pp - a % pp) % pp * ((0 % pp + pp - a % pp) % pp) % pp = a * a % pp := by
  have h := neg_back a
  generalize (0 % pp + pp - a % pp) % pp = n at *
  refine add_zero_cancel (z := n * a) ?_ ?_
  · rw [← Nat.mul_add]; exact mod_zero_mul h n
  · rw [← Nat.add_mul, Nat.mul_comm]; exact mod_zero_mul h a
theorem neg_neg' (a : Nat) : (0 % pp + pp - (0 % pp + pp - a % pp) % pp % pp) % pp = a % pp := by
  have h := neg_add a
  generalize (0 % pp + pp - a % pp) % pp = n at *
  refine dif_of (Nat.mod_lt _ pp_pos) (Nat.mod_lt _ pp_pos) (Nat.mod_lt _ pp_pos) ?_
  rw [← Nat.add_mod, h, Nat.zero_mod]
def factSq (a n : Nat) : Nat → Value → Prop
  | 0, v => v = .agg (B32 (bdig 0))
  | 1, v => v = .agg (B32 (bdig a))
  | 2, v => v = .agg (B32 (bdig n))
  | 3, v => ∃ g, v = .pointer (some ⟨g, 0, none⟩)
  | _, _ => True
def valSq (a b n aa bb d1 dd ss m p pi ia ib : Nat) : Nat → Value
  | 0 => .agg (B32 (bdig a))
  | 1 => .agg (B32 (bdig a))
  | 2 => .agg (B32 (bdig aa))
  | 3 => .agg (B32 (bdig b))
  | 4 => .agg (B32 (bdig b))
  | 5 => .agg (B32 (bdig bb))
  | 6 => .agg (B32 (bdig d1))
  | 7 => .agg (B32 (bdig a))
  | 8 => .agg (B32 (bdig b))
  | 9 => .agg (B32 (bdig dd))
  | 10 => .agg (B32 (bdig a))
  | 11 => .agg (B32 (bdig b))
  | 12 => .agg (B32 (bdig ss))
  | 13 => .agg (B32 (bdig d1))
  | 16 => .agg (B32 (bdig n))
  | 17 => .agg (B32 (bdig n))
  | 18 => .agg (B32 (bdig aa))
  | 19 => .agg (B32 (bdig a))
  | 20 => .agg (B32 (bdig a))
  | 21 => .agg (B32 (bdig aa))
  | 25 => .agg (B32 (bdig a))
  | 26 => .agg (B32 (bdig n))
  | 27 => .agg (B32 (bdig 0))
  | 28 => .agg (B32 (bdig 0))
  | 32 => .agg (B32 (bdig 0))
  | 33 => .agg (B32 (bdig n))
  | 34 => .agg (B32 (bdig m))
  | 35 => .agg (B32 (bdig a))
  | 36 => .agg (B32 (bdig m))
  | 40 => .agg (B32 (bdig a))
  | 41 => .agg (B32 (bdig b))
  | 42 => .agg (B32 (bdig p))
  | 43 => .agg (B32 (bdig pi))
  | 44 => .agg (B32 (bdig a))
  | 45 => .agg (B32 (bdig ia))
  | 46 => .agg (B32 (bdig b))
  | 47 => .agg (B32 (bdig ib))
  | 48 => .agg (B32 (bdig pi))
  | _ => .bool true

set_option maxRecDepth 100000 in
set_option maxHeartbeats 16000000 in
theorem squares_any {T : World → Prop} (F : Fld T) (hI : FInv T) (a b : Nat) (ha : a < R256) (hb : b < R256) (w : World) (hT : T w) : Calls Tryd.prog 3 #[.agg (B32 (bdig a)), .agg (B32 (bdig b))] w fun x w' => x = .returned (.bool true) ∧ Below w.heap.size w w' := by
  have hz := (zero_of_info zeroB32).1
  obtain ⟨n, Hn⟩ : ∃ x, Hid ((0 % pp + pp - a % pp) % pp = x) := ⟨_, rfl⟩
  have hln : n < pp := by rw [← Hn.out]; exact Nat.mod_lt _ pp_pos
  have hn : n < R256 := Nat.lt_trans hln (by decide)
  obtain ⟨aa, Haa⟩ : ∃ x, Hid (a * a % pp = x) := ⟨_, rfl⟩
  have hlaa : aa < pp := by rw [← Haa.out]; exact Nat.mod_lt _ pp_pos
  have haa : aa < R256 := Nat.lt_trans hlaa (by decide)
  obtain ⟨bb, Hbb⟩ : ∃ x, Hid (b * b % pp = x) := ⟨_, rfl⟩
  have hlbb : bb < pp := by rw [← Hbb.out]; exact Nat.mod_lt _ pp_pos
  have hbb : bb < R256 := Nat.lt_trans hlbb (by decide)
  obtain ⟨d1, Hd1⟩ : ∃ x, Hid ((aa % pp + pp - bb % pp) % pp = x) := ⟨_, rfl⟩
  have hld1 : d1 < pp := by rw [← Hd1.out]; exact Nat.mod_lt _ pp_pos
  have hd1 : d1 < R256 := Nat.lt_trans hld1 (by decide)
  obtain ⟨dd, Hdd⟩ : ∃ x, Hid ((a % pp + pp - b % pp) % pp = x) := ⟨_, rfl⟩
  have hldd : dd < pp := by rw [← Hdd.out]; exact Nat.mod_lt _ pp_pos
  have hdd : dd < R256 := Nat.lt_trans hldd (by decide)
  obtain ⟨ss, Hss⟩ : ∃ x, Hid ((a + b) % pp = x) := ⟨_, rfl⟩
  have hlss : ss < pp := by rw [← Hss.out]; exact Nat.mod_lt _ pp_pos
  have hss : ss < R256 := Nat.lt_trans hlss (by decide)
  obtain ⟨m, Hm⟩ : ∃ x, Hid (a % pp = x) := ⟨_, rfl⟩
  have hlm : m < pp := by rw [← Hm.out]; exact Nat.mod_lt _ pp_pos
  have hm : m < R256 := Nat.lt_trans hlm (by decide)
  obtain ⟨p, Hp⟩ : ∃ x, Hid (a * b % pp = x) := ⟨_, rfl⟩
  have hlp : p < pp := by rw [← Hp.out]; exact Nat.mod_lt _ pp_pos
  have hp : p < R256 := Nat.lt_trans hlp (by decide)
  obtain ⟨pi, Hpi⟩ : ∃ x, Hid (finv p = x) := ⟨_, rfl⟩
  have hlpi : pi < pp := by rw [← Hpi.out]; exact finv_lt _
  have hpi : pi < R256 := Nat.lt_trans hlpi (by decide)
  obtain ⟨ia, Hia⟩ : ∃ x, Hid (finv a = x) := ⟨_, rfl⟩
  have hlia : ia < pp := by rw [← Hia.out]; exact finv_lt _
  have hia : ia < R256 := Nat.lt_trans hlia (by decide)
  obtain ⟨ib, Hib⟩ : ∃ x, Hid (finv b = x) := ⟨_, rfl⟩
  have hlib : ib < pp := by rw [← Hib.out]; exact finv_lt _
  have hib : ib < R256 := Nat.lt_trans hlib (by decide)
  have h0 : 0 < R256 := by decide
  have Hd2 : Hid (dd * ss % pp = d1) := by show _ = _; rw [← Hd1.out, ← Hdd.out, ← Hss.out, ← Haa.out, ← Hbb.out]; exact sq_diff a b
  have Hnn : Hid (n * n % pp = aa) := by show _ = _; rw [← Haa.out, ← Hn.out]; exact sq_neg a
  have Han : Hid ((a + n) % pp = 0) := by show _ = _; rw [← Hn.out]; exact neg_add a
  have Hm2 : Hid ((0 % pp + pp - n % pp) % pp = m) := by show _ = _; rw [← Hm.out, ← Hn.out]; exact neg_neg' a
  have Hpi2 : Hid (ia * ib % pp = pi) := by show _ = _; rw [← Hpi.out, ← Hia.out, ← Hib.out, ← Hp.out, finv_mod, finv_prod]
  have same_d1 := B32_same d1 hd1
  have same_aa := B32_same aa haa
  have same_0 := B32_same 0 h0
  have same_m := B32_same m hm
  have same_pi := B32_same pi hpi
  go_enter Tryd.func3, Tryd.ntmps3
  go_upto_region 1 with fail
  have hK0 := ((Kp.nil w).alloc (B32 (bdig a)) 22).alloc (B32 (bdig b)) 22
  rw [World.size_alloc] at hK0
  generalize (w.alloc (.cells (B32 (bdig a)) 22)).alloc (.cells (B32 (bdig b)) 22) = W at *
  obtain ⟨bA, H1⟩ : ∃ bA, Hid (w.heap.size = bA) := ⟨_, rfl⟩
  obtain ⟨bB, H2⟩ : ∃ bB, Hid (bA + 1 = bB) := ⟨_, rfl⟩
  rw [H1.out, H2.out] at hK0 ⊢
  refine wp_region_told 63 (by kernel_rfl) (by kernel_rfl) (by rfl) (factSq a n) (fun L vs => Mk [(bB, B32 (bdig b), 22), (bA, B32 (bdig a), 22)] w (B32 fun _ => 0) (B32 (bdig n)) 22 (L 3) (L 4) (vs 3)) (fun _ => Mk.drew hK0) ?_ ?_
  · intro L vs ac wc i o hF hLi ho hd K hK
    rcases i with _ | _ | _ | _ | _ | i
    · have ho' := ho
      obtain rfl := Option.some.inj ho
      refine step_do ho' (wanted_free rfl) ?_
      unfold Oper.wp
      go_simp
      refine (num_any 0 (by decide) _).mono ?_
      rintro e w' ⟨rfl, hB⟩
      exact hK _ _ (.inr rfl) (hF.j.below hB)
    · have ho' := ho
      obtain rfl := Option.some.inj ho
      have f2 : ac.tmps.getD 2 undef = .pointer (some ⟨bA, 0, none⟩) := slott hF 1 hLi 2 (by kernel_rfl)
      refine step_do ho' (wanted_free rfl) ?_
      exact wp_load_own 22 (.tmp 2) rfl bA f2 (B32 (bdig a)) _ 22 hF.j.1.h2 Tryd.underlying22 rfl (B32_info _) (hK _ _ (.inr rfl) hF.j)
    · have ho' := ho
      obtain rfl := Option.some.inj ho
      have f6 : ac.tmps.getD 6 undef = .agg (B32 (bdig 0)) := (factt hF hd 0 rfl rfl (by kernel_rfl)).1.trans (factt hF hd 0 rfl rfl (by kernel_rfl)).2
      have f7 : ac.tmps.getD 7 undef = .agg (B32 (bdig a)) := (factt hF hd 1 rfl rfl (by kernel_rfl)).1.trans (factt hF hd 1 rfl rfl (by kernel_rfl)).2
      refine step_do ho' (wanted_free rfl) ?_
      unfold Oper.wp
      go_simp
      refine (F.subA h0 ha Hn.out _ (F.keep _ _ hT hF.j.1.2)).mono ?_
      rintro e w' ⟨rfl, hB⟩
      exact hK _ _ (.inr rfl) (hF.j.below hB)
    · have ho' := ho
      obtain rfl := Option.some.inj ho
      refine step_do ho' (wanted_free rfl) ?_
      have hs := notyett hF 3 hLi 4 rfl (by kernel_rfl)
      unfold Oper.wp
      go_simp
      exact hK _ _ (.inr ⟨_, rfl⟩) (Mk.alloc hF.j.1 hs)
    · have ho' := ho
      obtain rfl := Option.some.inj ho
      have f8 : ac.tmps.getD 8 undef = .agg (B32 (bdig n)) := (factt hF hd 2 rfl rfl (by kernel_rfl)).1.trans (factt hF hd 2 rfl rfl (by kernel_rfl)).2
      refine step_do ho' (wanted_free rfl) ?_
      obtain ⟨fg, g, hg⟩ := factt hF hd 3 rfl rfl (by kernel_rfl)
      have hm := dep hd 3 (by kernel_rfl)
      have hj := hF.j
      rw [hg] at fg
      have hj2 := hj.at hm hg hLi
      refine wp_store_own 22 (.tmp 5) (.tmp 8) rfl g (B32 (bdig n)) fg f8 hj2.2.2 (B32_sizes _ _) (B32_info _) (B32_one _) rfl ?_
      exact hK undef _ (.inl rfl) (hj.store hm hg hLi (B32_sizes _ _))
    · cases ho
  · intro L vs wq hL hJ hf
    obtain ⟨g, hg⟩ := hf 3 _ _ rfl rfl
    obtain ⟨hK2, hgl, hgn⟩ := hJ.done (hL 3 (by decide)) hg (hL 4 (by decide))
    have e0 : vs 0 = _ := hf 0 _ _ rfl rfl
    have e1 : vs 1 = _ := hf 1 _ _ rfl rfl
    have e2 : vs 2 = _ := hf 2 _ _ rfl rfl
    simp only [putAll, Nat.zero_add, Nat.reduceAdd, e0, e1, e2, hg, Act.put, List.setIfInBounds_toArray, List.set_cons_succ, List.set_cons_zero]
    clear hK0 hf hJ hL
    have hTq := F.keep _ _ hT hK2.2
    go_upto_region 2 with fail
    refine wp_region_stable 63 (by kernel_rfl) (by kernel_rfl) (by rfl) (fun i v _ => v = valSq a b n aa bb d1 dd ss m p pi ia ib i) (fun _ _ _ _ _ h => h) ?_ ?_
    · intro L ac wc i o hF ho hd
      rcases i with _ | _ | _ | _ | _ | _ | _ | _ | _ | _ | _ | _ | _ | _ | _ | _ | _ | _ | _ | _ | _ | _ | _ | _ | _ | _ | _ | _ | _ | _ | _ | _ | _ | _ | _ | _ | _ | _ | _ | _ | _ | _ | _ | _ | _ | _ | _ | _ | _ | _ | _ | _ | _ | _ | _ | i
      · obtain rfl := Option.some.inj ho
        have f2 : ac.tmps.getD 2 undef = .pointer (some ⟨bA, 0, none⟩) := slot hF 2 (by kernel_rfl)
        refine ⟨wanted_free rfl, fun K hK => ?_⟩
        exact wp_load_own 22 (.tmp 2) rfl bA f2 (B32 (bdig a)) _ 22 ((hK2.below hF.cls).at bA (B32 (bdig a)) 22 (by simp)) Tryd.underlying22 rfl (B32_info _) (hK _ _ (Below.refl _ _) rfl)
      · obtain rfl := Option.some.inj ho
        have f2 : ac.tmps.getD 2 undef = .pointer (some ⟨bA, 0, none⟩) := slot hF 2 (by kernel_rfl)
        refine ⟨wanted_free rfl, fun K hK => ?_⟩
        exact wp_load_own 22 (.tmp 2) rfl bA f2 (B32 (bdig a)) _ 22 ((hK2.below hF.cls).at bA (B32 (bdig a)) 22 (by simp)) Tryd.underlying22 rfl (B32_info _) (hK _ _ (Below.refl _ _) rfl)
      · obtain rfl := Option.some.inj ho
        have f9 : ac.tmps.getD 9 undef = .agg (B32 (bdig a)) := hF.fact 0 _ _ rfl rfl (dep hd 0 (by kernel_rfl))
        have f10 : ac.tmps.getD 10 undef = .agg (B32 (bdig a)) := hF.fact 1 _ _ rfl rfl (dep hd 1 (by kernel_rfl))
        refine ⟨wanted_free rfl, fun K hK => ?_⟩
        unfold Oper.wp
        go_simp
        refine (F.mulA ha ha Haa.out _ (F.keep _ _ hTq hF.cls)).mono ?_
        rintro e w' ⟨rfl, hB⟩
        exact hK _ _ hB rfl
      · obtain rfl := Option.some.inj ho
        have f3 : ac.tmps.getD 3 undef = .pointer (some ⟨bB, 0, none⟩) := slot hF 3 (by kernel_rfl)
        refine ⟨wanted_free rfl, fun K hK => ?_⟩
        exact wp_load_own 22 (.tmp 3) rfl bB f3 (B32 (bdig b)) _ 22 ((hK2.below hF.cls).at bB (B32 (bdig b)) 22 (by simp)) Tryd.underlying22 rfl (B32_info _) (hK _ _ (Below.refl _ _) rfl)
      · obtain rfl := Option.some.inj ho
        have f3 : ac.tmps.getD 3 undef = .pointer (some ⟨bB, 0, none⟩) := slot hF 3 (by kernel_rfl)
        refine ⟨wanted_free rfl, fun K hK => ?_⟩
        exact wp_load_own 22 (.tmp 3) rfl bB f3 (B32 (bdig b)) _ 22 ((hK2.below hF.cls).at bB (B32 (bdig b)) 22 (by simp)) Tryd.underlying22 rfl (B32_info _) (hK _ _ (Below.refl _ _) rfl)
      · obtain rfl := Option.some.inj ho
        have f12 : ac.tmps.getD 12 undef = .agg (B32 (bdig b)) := hF.fact 3 _ _ rfl rfl (dep hd 3 (by kernel_rfl))
        have f13 : ac.tmps.getD 13 undef = .agg (B32 (bdig b)) := hF.fact 4 _ _ rfl rfl (dep hd 4 (by kernel_rfl))
        refine ⟨wanted_free rfl, fun K hK => ?_⟩
        unfold Oper.wp
        go_simp
        refine (F.mulA hb hb Hbb.out _ (F.keep _ _ hTq hF.cls)).mono ?_
        rintro e w' ⟨rfl, hB⟩
        exact hK _ _ hB rfl
      · obtain rfl := Option.some.inj ho
        have f11 : ac.tmps.getD 11 undef = .agg (B32 (bdig aa)) := hF.fact 2 _ _ rfl rfl (dep hd 2 (by kernel_rfl))
        have f14 : ac.tmps.getD 14 undef = .agg (B32 (bdig bb)) := hF.fact 5 _ _ rfl rfl (dep hd 5 (by kernel_rfl))
        refine ⟨wanted_free rfl, fun K hK => ?_⟩
        unfold Oper.wp
        go_simp
        refine (F.subA haa hbb Hd1.out _ (F.keep _ _ hTq hF.cls)).mono ?_
        rintro e w' ⟨rfl, hB⟩
        exact hK _ _ hB rfl
      · obtain rfl := Option.some.inj ho
        have f2 : ac.tmps.getD 2 undef = .pointer (some ⟨bA, 0, none⟩) := slot hF 2 (by kernel_rfl)
        refine ⟨wanted_free rfl, fun K hK => ?_⟩
        exact wp_load_own 22 (.tmp 2) rfl bA f2 (B32 (bdig a)) _ 22 ((hK2.below hF.cls).at bA (B32 (bdig a)) 22 (by simp)) Tryd.underlying22 rfl (B32_info _) (hK _ _ (Below.refl _ _) rfl)
      · obtain rfl := Option.some.inj ho
        have f3 : ac.tmps.getD 3 undef = .pointer (some ⟨bB, 0, none⟩) := slot hF 3 (by kernel_rfl)
        refine ⟨wanted_free rfl, fun K hK => ?_⟩
        exact wp_load_own 22 (.tmp 3) rfl bB f3 (B32 (bdig b)) _ 22 ((hK2.below hF.cls).at bB (B32 (bdig b)) 22 (by simp)) Tryd.underlying22 rfl (B32_info _) (hK _ _ (Below.refl _ _) rfl)
      · obtain rfl := Option.some.inj ho
        have f16 : ac.tmps.getD 16 undef = .agg (B32 (bdig a)) := hF.fact 7 _ _ rfl rfl (dep hd 7 (by kernel_rfl))
        have f17 : ac.tmps.getD 17 undef = .agg (B32 (bdig b)) := hF.fact 8 _ _ rfl rfl (dep hd 8 (by kernel_rfl))
        refine ⟨wanted_free rfl, fun K hK => ?_⟩
        unfold Oper.wp
        go_simp
        refine (F.subA ha hb Hdd.out _ (F.keep _ _ hTq hF.cls)).mono ?_
        rintro e w' ⟨rfl, hB⟩
        exact hK _ _ hB rfl
      · obtain rfl := Option.some.inj ho
        have f2 : ac.tmps.getD 2 undef = .pointer (some ⟨bA, 0, none⟩) := slot hF 2 (by kernel_rfl)
        refine ⟨wanted_free rfl, fun K hK => ?_⟩
        exact wp_load_own 22 (.tmp 2) rfl bA f2 (B32 (bdig a)) _ 22 ((hK2.below hF.cls).at bA (B32 (bdig a)) 22 (by simp)) Tryd.underlying22 rfl (B32_info _) (hK _ _ (Below.refl _ _) rfl)
      · obtain rfl := Option.some.inj ho
        have f3 : ac.tmps.getD 3 undef = .pointer (some ⟨bB, 0, none⟩) := slot hF 3 (by kernel_rfl)
        refine ⟨wanted_free rfl, fun K hK => ?_⟩
        exact wp_load_own 22 (.tmp 3) rfl bB f3 (B32 (bdig b)) _ 22 ((hK2.below hF.cls).at bB (B32 (bdig b)) 22 (by simp)) Tryd.underlying22 rfl (B32_info _) (hK _ _ (Below.refl _ _) rfl)
      · obtain rfl := Option.some.inj ho
        have f19 : ac.tmps.getD 19 undef = .agg (B32 (bdig a)) := hF.fact 10 _ _ rfl rfl (dep hd 10 (by kernel_rfl))
        have f20 : ac.tmps.getD 20 undef = .agg (B32 (bdig b)) := hF.fact 11 _ _ rfl rfl (dep hd 11 (by kernel_rfl))
        refine ⟨wanted_free rfl, fun K hK => ?_⟩
        unfold Oper.wp
        go_simp
        refine (F.addA ha hb Hss.out _ (F.keep _ _ hTq hF.cls)).mono ?_
        rintro e w' ⟨rfl, hB⟩
        exact hK _ _ hB rfl
      · obtain rfl := Option.some.inj ho
        have f18 : ac.tmps.getD 18 undef = .agg (B32 (bdig dd)) := hF.fact 9 _ _ rfl rfl (dep hd 9 (by kernel_rfl))
        have f21 : ac.tmps.getD 21 undef = .agg (B32 (bdig ss)) := hF.fact 12 _ _ rfl rfl (dep hd 12 (by kernel_rfl))
        refine ⟨wanted_free rfl, fun K hK => ?_⟩
        unfold Oper.wp
        go_simp
        refine (F.mulA hdd hss Hd2.out _ (F.keep _ _ hTq hF.cls)).mono ?_
        rintro e w' ⟨rfl, hB⟩
        exact hK _ _ hB rfl
      · obtain rfl := Option.some.inj ho
        have f15 : ac.tmps.getD 15 undef = .agg (B32 (bdig d1)) := hF.fact 6 _ _ rfl rfl (dep hd 6 (by kernel_rfl))
        have f22 : ac.tmps.getD 22 undef = .agg (B32 (bdig d1)) := hF.fact 13 _ _ rfl rfl (dep hd 13 (by kernel_rfl))
        refine ⟨wanted_free rfl, fun K hK => ?_⟩
        unfold Oper.wp
        go_simp
        exact hK _ _ (Below.refl _ _) rfl
      · obtain rfl := Option.some.inj ho
        have f23 : ac.tmps.getD 23 undef = .bool true := hF.fact 14 _ _ rfl rfl (dep hd 14 (by kernel_rfl))
        refine ⟨wanted_free rfl, fun K hK => ?_⟩
        unfold Oper.wp
        go_simp
        exact hK _ _ (Below.refl _ _) rfl
      · obtain rfl := Option.some.inj ho
        have f5 : ac.tmps.getD 5 undef = .pointer (some ⟨g, 0, none⟩) := slot hF 5 (by kernel_rfl)
        have fg : ac.tmps.getD 24 undef = .bool true := hF.fact 15 _ _ rfl rfl (dep hd 15 (by kernel_rfl))
        refine ⟨wanted_true (g := 15) rfl rfl rfl fg, fun K hK => ?_⟩
        exact wp_load_own 22 (.tmp 5) rfl g f5 (B32 (bdig n)) _ 22 ((hK2.below hF.cls).at g (B32 (bdig n)) 22 (by simp)) Tryd.underlying22 rfl (B32_info _) (hK _ _ (Below.refl _ _) rfl)
      · obtain rfl := Option.some.inj ho
        have f5 : ac.tmps.getD 5 undef = .pointer (some ⟨g, 0, none⟩) := slot hF 5 (by kernel_rfl)
        have fg : ac.tmps.getD 24 undef = .bool true := hF.fact 15 _ _ rfl rfl (dep hd 15 (by kernel_rfl))
        refine ⟨wanted_true (g := 15) rfl rfl rfl fg, fun K hK => ?_⟩
        exact wp_load_own 22 (.tmp 5) rfl g f5 (B32 (bdig n)) _ 22 ((hK2.below hF.cls).at g (B32 (bdig n)) 22 (by simp)) Tryd.underlying22 rfl (B32_info _) (hK _ _ (Below.refl _ _) rfl)
      · obtain rfl := Option.some.inj ho
        have f25 : ac.tmps.getD 25 undef = .agg (B32 (bdig n)) := hF.fact 16 _ _ rfl rfl (dep hd 16 (by kernel_rfl))
        have f26 : ac.tmps.getD 26 undef = .agg (B32 (bdig n)) := hF.fact 17 _ _ rfl rfl (dep hd 17 (by kernel_rfl))
        have fg : ac.tmps.getD 24 undef = .bool true := hF.fact 15 _ _ rfl rfl (dep hd 15 (by kernel_rfl))
        refine ⟨wanted_true (g := 15) rfl rfl rfl fg, fun K hK => ?_⟩
        unfold Oper.wp
        go_simp
        refine (F.mulA hn hn Hnn.out _ (F.keep _ _ hTq hF.cls)).mono ?_
        rintro e w' ⟨rfl, hB⟩
        exact hK _ _ hB rfl
      · obtain rfl := Option.some.inj ho
        have f2 : ac.tmps.getD 2 undef = .pointer (some ⟨bA, 0, none⟩) := slot hF 2 (by kernel_rfl)
        have fg : ac.tmps.getD 24 undef = .bool true := hF.fact 15 _ _ rfl rfl (dep hd 15 (by kernel_rfl))
        refine ⟨wanted_true (g := 15) rfl rfl rfl fg, fun K hK => ?_⟩
        exact wp_load_own 22 (.tmp 2) rfl bA f2 (B32 (bdig a)) _ 22 ((hK2.below hF.cls).at bA (B32 (bdig a)) 22 (by simp)) Tryd.underlying22 rfl (B32_info _) (hK _ _ (Below.refl _ _) rfl)
      · obtain rfl := Option.some.inj ho
        have f2 : ac.tmps.getD 2 undef = .pointer (some ⟨bA, 0, none⟩) := slot hF 2 (by kernel_rfl)
        have fg : ac.tmps.getD 24 undef = .bool true := hF.fact 15 _ _ rfl rfl (dep hd 15 (by kernel_rfl))
        refine ⟨wanted_true (g := 15) rfl rfl rfl fg, fun K hK => ?_⟩
        exact wp_load_own 22 (.tmp 2) rfl bA f2 (B32 (bdig a)) _ 22 ((hK2.below hF.cls).at bA (B32 (bdig a)) 22 (by simp)) Tryd.underlying22 rfl (B32_info _) (hK _ _ (Below.refl _ _) rfl)
      · obtain rfl := Option.some.inj ho
        have f28 : ac.tmps.getD 28 undef = .agg (B32 (bdig a)) := hF.fact 19 _ _ rfl rfl (dep hd 19 (by kernel_rfl))
        have f29 : ac.tmps.getD 29 undef = .agg (B32 (bdig a)) := hF.fact 20 _ _ rfl rfl (dep hd 20 (by kernel_rfl))
        have fg : ac.tmps.getD 24 undef = .bool true := hF.fact 15 _ _ rfl rfl (dep hd 15 (by kernel_rfl))
        refine ⟨wanted_true (g := 15) rfl rfl rfl fg, fun K hK => ?_⟩
        unfold Oper.wp
        go_simp
        refine (F.mulA ha ha Haa.out _ (F.keep _ _ hTq hF.cls)).mono ?_
        rintro e w' ⟨rfl, hB⟩
        exact hK _ _ hB rfl
      · obtain rfl := Option.some.inj ho
        have f27 : ac.tmps.getD 27 undef = .agg (B32 (bdig aa)) := hF.fact 18 _ _ rfl rfl (dep hd 18 (by kernel_rfl))
        have f30 : ac.tmps.getD 30 undef = .agg (B32 (bdig aa)) := hF.fact 21 _ _ rfl rfl (dep hd 21 (by kernel_rfl))
        have fg : ac.tmps.getD 24 undef = .bool true := hF.fact 15 _ _ rfl rfl (dep hd 15 (by kernel_rfl))
        refine ⟨wanted_true (g := 15) rfl rfl rfl fg, fun K hK => ?_⟩
        unfold Oper.wp
        go_simp
        exact hK _ _ (Below.refl _ _) rfl
      · obtain rfl := Option.some.inj ho
        have f24 : ac.tmps.getD 24 undef = .bool true := hF.fact 15 _ _ rfl rfl (dep hd 15 (by kernel_rfl))
        have f31 : ac.tmps.getD 31 undef = .bool true := hF.fact 22 _ _ rfl rfl (dep hd 22 (by kernel_rfl))
        refine ⟨wanted_free rfl, fun K hK => ?_⟩
        unfold Oper.wp
        go_simp
        exact hK _ _ (Below.refl _ _) rfl
      · obtain rfl := Option.some.inj ho
        have f32 : ac.tmps.getD 32 undef = .bool true := hF.fact 23 _ _ rfl rfl (dep hd 23 (by kernel_rfl))
        refine ⟨wanted_free rfl, fun K hK => ?_⟩
        unfold Oper.wp
        go_simp
        exact hK _ _ (Below.refl _ _) rfl
      · obtain rfl := Option.some.inj ho
        have f2 : ac.tmps.getD 2 undef = .pointer (some ⟨bA, 0, none⟩) := slot hF 2 (by kernel_rfl)
        have fg : ac.tmps.getD 33 undef = .bool true := hF.fact 24 _ _ rfl rfl (dep hd 24 (by kernel_rfl))
        refine ⟨wanted_true (g := 24) rfl rfl rfl fg, fun K hK => ?_⟩
        exact wp_load_own 22 (.tmp 2) rfl bA f2 (B32 (bdig a)) _ 22 ((hK2.below hF.cls).at bA (B32 (bdig a)) 22 (by simp)) Tryd.underlying22 rfl (B32_info _) (hK _ _ (Below.refl _ _) rfl)
      · obtain rfl := Option.some.inj ho
        have f5 : ac.tmps.getD 5 undef = .pointer (some ⟨g, 0, none⟩) := slot hF 5 (by kernel_rfl)
        have fg : ac.tmps.getD 33 undef = .bool true := hF.fact 24 _ _ rfl rfl (dep hd 24 (by kernel_rfl))
        refine ⟨wanted_true (g := 24) rfl rfl rfl fg, fun K hK => ?_⟩
        exact wp_load_own 22 (.tmp 5) rfl g f5 (B32 (bdig n)) _ 22 ((hK2.below hF.cls).at g (B32 (bdig n)) 22 (by simp)) Tryd.underlying22 rfl (B32_info _) (hK _ _ (Below.refl _ _) rfl)
      · obtain rfl := Option.some.inj ho
        have f34 : ac.tmps.getD 34 undef = .agg (B32 (bdig a)) := hF.fact 25 _ _ rfl rfl (dep hd 25 (by kernel_rfl))
        have f35 : ac.tmps.getD 35 undef = .agg (B32 (bdig n)) := hF.fact 26 _ _ rfl rfl (dep hd 26 (by kernel_rfl))
        have fg : ac.tmps.getD 33 undef = .bool true := hF.fact 24 _ _ rfl rfl (dep hd 24 (by kernel_rfl))
        refine ⟨wanted_true (g := 24) rfl rfl rfl fg, fun K hK => ?_⟩
        unfold Oper.wp
        go_simp
        refine (F.addA ha hn Han.out _ (F.keep _ _ hTq hF.cls)).mono ?_
        rintro e w' ⟨rfl, hB⟩
        exact hK _ _ hB rfl
      · obtain rfl := Option.some.inj ho
        have fg : ac.tmps.getD 33 undef = .bool true := hF.fact 24 _ _ rfl rfl (dep hd 24 (by kernel_rfl))
        refine ⟨wanted_true (g := 24) rfl rfl rfl fg, fun K hK => ?_⟩
        unfold Oper.wp
        go_simp
        refine (num_any 0 (by decide) _).mono ?_
        rintro e w' ⟨rfl, hB⟩
        exact hK _ _ hB rfl
      · obtain rfl := Option.some.inj ho
        have f36 : ac.tmps.getD 36 undef = .agg (B32 (bdig 0)) := hF.fact 27 _ _ rfl rfl (dep hd 27 (by kernel_rfl))
        have f37 : ac.tmps.getD 37 undef = .agg (B32 (bdig 0)) := hF.fact 28 _ _ rfl rfl (dep hd 28 (by kernel_rfl))
        have fg : ac.tmps.getD 33 undef = .bool true := hF.fact 24 _ _ rfl rfl (dep hd 24 (by kernel_rfl))
        refine ⟨wanted_true (g := 24) rfl rfl rfl fg, fun K hK => ?_⟩
        unfold Oper.wp
        go_simp
        exact hK _ _ (Below.refl _ _) rfl
      · obtain rfl := Option.some.inj ho
        have f33 : ac.tmps.getD 33 undef = .bool true := hF.fact 24 _ _ rfl rfl (dep hd 24 (by kernel_rfl))
        have f38 : ac.tmps.getD 38 undef = .bool true := hF.fact 29 _ _ rfl rfl (dep hd 29 (by kernel_rfl))
        refine ⟨wanted_free rfl, fun K hK => ?_⟩
        unfold Oper.wp
        go_simp
        exact hK _ _ (Below.refl _ _) rfl
      · obtain rfl := Option.some.inj ho
        have f39 : ac.tmps.getD 39 undef = .bool true := hF.fact 30 _ _ rfl rfl (dep hd 30 (by kernel_rfl))
        refine ⟨wanted_free rfl, fun K hK => ?_⟩
        unfold Oper.wp
        go_simp
        exact hK _ _ (Below.refl _ _) rfl
      · obtain rfl := Option.some.inj ho
        have fg : ac.tmps.getD 40 undef = .bool true := hF.fact 31 _ _ rfl rfl (dep hd 31 (by kernel_rfl))
        refine ⟨wanted_true (g := 31) rfl rfl rfl fg, fun K hK => ?_⟩
        unfold Oper.wp
        go_simp
        refine (num_any 0 (by decide) _).mono ?_
        rintro e w' ⟨rfl, hB⟩
        exact hK _ _ hB rfl
      · obtain rfl := Option.some.inj ho
        have f5 : ac.tmps.getD 5 undef = .pointer (some ⟨g, 0, none⟩) := slot hF 5 (by kernel_rfl)
        have fg : ac.tmps.getD 40 undef = .bool true := hF.fact 31 _ _ rfl rfl (dep hd 31 (by kernel_rfl))
        refine ⟨wanted_true (g := 31) rfl rfl rfl fg, fun K hK => ?_⟩
        exact wp_load_own 22 (.tmp 5) rfl g f5 (B32 (bdig n)) _ 22 ((hK2.below hF.cls).at g (B32 (bdig n)) 22 (by simp)) Tryd.underlying22 rfl (B32_info _) (hK _ _ (Below.refl _ _) rfl)
      · obtain rfl := Option.some.inj ho
        have f41 : ac.tmps.getD 41 undef = .agg (B32 (bdig 0)) := hF.fact 32 _ _ rfl rfl (dep hd 32 (by kernel_rfl))
        have f42 : ac.tmps.getD 42 undef = .agg (B32 (bdig n)) := hF.fact 33 _ _ rfl rfl (dep hd 33 (by kernel_rfl))
        have fg : ac.tmps.getD 40 undef = .bool true := hF.fact 31 _ _ rfl rfl (dep hd 31 (by kernel_rfl))
        refine ⟨wanted_true (g := 31) rfl rfl rfl fg, fun K hK => ?_⟩
        unfold Oper.wp
        go_simp
        refine (F.subA h0 hn Hm2.out _ (F.keep _ _ hTq hF.cls)).mono ?_
        rintro e w' ⟨rfl, hB⟩
        exact hK _ _ hB rfl
      · obtain rfl := Option.some.inj ho
        have f2 : ac.tmps.getD 2 undef = .pointer (some ⟨bA, 0, none⟩) := slot hF 2 (by kernel_rfl)
        have fg : ac.tmps.getD 40 undef = .bool true := hF.fact 31 _ _ rfl rfl (dep hd 31 (by kernel_rfl))
        refine ⟨wanted_true (g := 31) rfl rfl rfl fg, fun K hK => ?_⟩
        exact wp_load_own 22 (.tmp 2) rfl bA f2 (B32 (bdig a)) _ 22 ((hK2.below hF.cls).at bA (B32 (bdig a)) 22 (by simp)) Tryd.underlying22 rfl (B32_info _) (hK _ _ (Below.refl _ _) rfl)
      · obtain rfl := Option.some.inj ho
        have f44 : ac.tmps.getD 44 undef = .agg (B32 (bdig a)) := hF.fact 35 _ _ rfl rfl (dep hd 35 (by kernel_rfl))
        have fg : ac.tmps.getD 40 undef = .bool true := hF.fact 31 _ _ rfl rfl (dep hd 31 (by kernel_rfl))
        refine ⟨wanted_true (g := 31) rfl rfl rfl fg, fun K hK => ?_⟩
        unfold Oper.wp
        go_simp
        refine (F.modA ha Hm.out _ (F.keep _ _ hTq hF.cls)).mono ?_
        rintro e w' ⟨rfl, hB⟩
        exact hK _ _ hB rfl
      · obtain rfl := Option.some.inj ho
        have f43 : ac.tmps.getD 43 undef = .agg (B32 (bdig m)) := hF.fact 34 _ _ rfl rfl (dep hd 34 (by kernel_rfl))
        have f45 : ac.tmps.getD 45 undef = .agg (B32 (bdig m)) := hF.fact 36 _ _ rfl rfl (dep hd 36 (by kernel_rfl))
        have fg : ac.tmps.getD 40 undef = .bool true := hF.fact 31 _ _ rfl rfl (dep hd 31 (by kernel_rfl))
        refine ⟨wanted_true (g := 31) rfl rfl rfl fg, fun K hK => ?_⟩
        unfold Oper.wp
        go_simp
        exact hK _ _ (Below.refl _ _) rfl
      · obtain rfl := Option.some.inj ho
        have f40 : ac.tmps.getD 40 undef = .bool true := hF.fact 31 _ _ rfl rfl (dep hd 31 (by kernel_rfl))
        have f46 : ac.tmps.getD 46 undef = .bool true := hF.fact 37 _ _ rfl rfl (dep hd 37 (by kernel_rfl))
        refine ⟨wanted_free rfl, fun K hK => ?_⟩
        unfold Oper.wp
        go_simp
        exact hK _ _ (Below.refl _ _) rfl
      · obtain rfl := Option.some.inj ho
        have f47 : ac.tmps.getD 47 undef = .bool true := hF.fact 38 _ _ rfl rfl (dep hd 38 (by kernel_rfl))
        refine ⟨wanted_free rfl, fun K hK => ?_⟩
        unfold Oper.wp
        go_simp
        exact hK _ _ (Below.refl _ _) rfl
      · obtain rfl := Option.some.inj ho
        have f2 : ac.tmps.getD 2 undef = .pointer (some ⟨bA, 0, none⟩) := slot hF 2 (by kernel_rfl)
        have fg : ac.tmps.getD 48 undef = .bool true := hF.fact 39 _ _ rfl rfl (dep hd 39 (by kernel_rfl))
        refine ⟨wanted_true (g := 39) rfl rfl rfl fg, fun K hK => ?_⟩
        exact wp_load_own 22 (.tmp 2) rfl bA f2 (B32 (bdig a)) _ 22 ((hK2.below hF.cls).at bA (B32 (bdig a)) 22 (by simp)) Tryd.underlying22 rfl (B32_info _) (hK _ _ (Below.refl _ _) rfl)
      · obtain rfl := Option.some.inj ho
        have f3 : ac.tmps.getD 3 undef = .pointer (some ⟨bB, 0, none⟩) := slot hF 3 (by kernel_rfl)
        have fg : ac.tmps.getD 48 undef = .bool true := hF.fact 39 _ _ rfl rfl (dep hd 39 (by kernel_rfl))
        refine ⟨wanted_true (g := 39) rfl rfl rfl fg, fun K hK => ?_⟩
        exact wp_load_own 22 (.tmp 3) rfl bB f3 (B32 (bdig b)) _ 22 ((hK2.below hF.cls).at bB (B32 (bdig b)) 22 (by simp)) Tryd.underlying22 rfl (B32_info _) (hK _ _ (Below.refl _ _) rfl)
      · obtain rfl := Option.some.inj ho
        have f49 : ac.tmps.getD 49 undef = .agg (B32 (bdig a)) := hF.fact 40 _ _ rfl rfl (dep hd 40 (by kernel_rfl))
        have f50 : ac.tmps.getD 50 undef = .agg (B32 (bdig b)) := hF.fact 41 _ _ rfl rfl (dep hd 41 (by kernel_rfl))
        have fg : ac.tmps.getD 48 undef = .bool true := hF.fact 39 _ _ rfl rfl (dep hd 39 (by kernel_rfl))
        refine ⟨wanted_true (g := 39) rfl rfl rfl fg, fun K hK => ?_⟩
        unfold Oper.wp
        go_simp
        refine (F.mulA ha hb Hp.out _ (F.keep _ _ hTq hF.cls)).mono ?_
        rintro e w' ⟨rfl, hB⟩
        exact hK _ _ hB rfl
      · obtain rfl := Option.some.inj ho
        have f51 : ac.tmps.getD 51 undef = .agg (B32 (bdig p)) := hF.fact 42 _ _ rfl rfl (dep hd 42 (by kernel_rfl))
        have fg : ac.tmps.getD 48 undef = .bool true := hF.fact 39 _ _ rfl rfl (dep hd 39 (by kernel_rfl))
        refine ⟨wanted_true (g := 39) rfl rfl rfl fg, fun K hK => ?_⟩
        unfold Oper.wp
        go_simp
        refine (finvA hI hp Hpi.out _ (F.keep _ _ hTq hF.cls)).mono ?_
        rintro e w' ⟨rfl, hB⟩
        exact hK _ _ hB rfl
      · obtain rfl := Option.some.inj ho
        have f2 : ac.tmps.getD 2 undef = .pointer (some ⟨bA, 0, none⟩) := slot hF 2 (by kernel_rfl)
        have fg : ac.tmps.getD 48 undef = .bool true := hF.fact 39 _ _ rfl rfl (dep hd 39 (by kernel_rfl))
        refine ⟨wanted_true (g := 39) rfl rfl rfl fg, fun K hK => ?_⟩
        exact wp_load_own 22 (.tmp 2) rfl bA f2 (B32 (bdig a)) _ 22 ((hK2.below hF.cls).at bA (B32 (bdig a)) 22 (by simp)) Tryd.underlying22 rfl (B32_info _) (hK _ _ (Below.refl _ _) rfl)
      · obtain rfl := Option.some.inj ho
        have f53 : ac.tmps.getD 53 undef = .agg (B32 (bdig a)) := hF.fact 44 _ _ rfl rfl (dep hd 44 (by kernel_rfl))
        have fg : ac.tmps.getD 48 undef = .bool true := hF.fact 39 _ _ rfl rfl (dep hd 39 (by kernel_rfl))
        refine ⟨wanted_true (g := 39) rfl rfl rfl fg, fun K hK => ?_⟩
        unfold Oper.wp
        go_simp
        refine (finvA hI ha Hia.out _ (F.keep _ _ hTq hF.cls)).mono ?_
        rintro e w' ⟨rfl, hB⟩
        exact hK _ _ hB rfl
      · obtain rfl := Option.some.inj ho
        have f3 : ac.tmps.getD 3 undef = .pointer (some ⟨bB, 0, none⟩) := slot hF 3 (by kernel_rfl)
        have fg : ac.tmps.getD 48 undef = .bool true := hF.fact 39 _ _ rfl rfl (dep hd 39 (by kernel_rfl))
        refine ⟨wanted_true (g := 39) rfl rfl rfl fg, fun K hK => ?_⟩
        exact wp_load_own 22 (.tmp 3) rfl bB f3 (B32 (bdig b)) _ 22 ((hK2.below hF.cls).at bB (B32 (bdig b)) 22 (by simp)) Tryd.underlying22 rfl (B32_info _) (hK _ _ (Below.refl _ _) rfl)
      · obtain rfl := Option.some.inj ho
        have f55 : ac.tmps.getD 55 undef = .agg (B32 (bdig b)) := hF.fact 46 _ _ rfl rfl (dep hd 46 (by kernel_rfl))
        have fg : ac.tmps.getD 48 undef = .bool true := hF.fact 39 _ _ rfl rfl (dep hd 39 (by kernel_rfl))
        refine ⟨wanted_true (g := 39) rfl rfl rfl fg, fun K hK => ?_⟩
        unfold Oper.wp
        go_simp
        refine (finvA hI hb Hib.out _ (F.keep _ _ hTq hF.cls)).mono ?_
        rintro e w' ⟨rfl, hB⟩
        exact hK _ _ hB rfl
      · obtain rfl := Option.some.inj ho
        have f54 : ac.tmps.getD 54 undef = .agg (B32 (bdig ia)) := hF.fact 45 _ _ rfl rfl (dep hd 45 (by kernel_rfl))
        have f56 : ac.tmps.getD 56 undef = .agg (B32 (bdig ib)) := hF.fact 47 _ _ rfl rfl (dep hd 47 (by kernel_rfl))
        have fg : ac.tmps.getD 48 undef = .bool true := hF.fact 39 _ _ rfl rfl (dep hd 39 (by kernel_rfl))
        refine ⟨wanted_true (g := 39) rfl rfl rfl fg, fun K hK => ?_⟩
        unfold Oper.wp
        go_simp
        refine (F.mulA hia hib Hpi2.out _ (F.keep _ _ hTq hF.cls)).mono ?_
        rintro e w' ⟨rfl, hB⟩
        exact hK _ _ hB rfl
      · obtain rfl := Option.some.inj ho
        have f52 : ac.tmps.getD 52 undef = .agg (B32 (bdig pi)) := hF.fact 43 _ _ rfl rfl (dep hd 43 (by kernel_rfl))
        have f57 : ac.tmps.getD 57 undef = .agg (B32 (bdig pi)) := hF.fact 48 _ _ rfl rfl (dep hd 48 (by kernel_rfl))
        have fg : ac.tmps.getD 48 undef = .bool true := hF.fact 39 _ _ rfl rfl (dep hd 39 (by kernel_rfl))
        refine ⟨wanted_true (g := 39) rfl rfl rfl fg, fun K hK => ?_⟩
        unfold Oper.wp
        go_simp
        exact hK _ _ (Below.refl _ _) rfl
      · obtain rfl := Option.some.inj ho
        have f48 : ac.tmps.getD 48 undef = .bool true := hF.fact 39 _ _ rfl rfl (dep hd 39 (by kernel_rfl))
        have f58 : ac.tmps.getD 58 undef = .bool true := hF.fact 49 _ _ rfl rfl (dep hd 49 (by kernel_rfl))
        refine ⟨wanted_free rfl, fun K hK => ?_⟩
        unfold Oper.wp
        go_simp
        exact hK _ _ (Below.refl _ _) rfl
      · obtain rfl := Option.some.inj ho
        have f59 : ac.tmps.getD 59 undef = .bool true := hF.fact 50 _ _ rfl rfl (dep hd 50 (by kernel_rfl))
        refine ⟨wanted_free rfl, fun K hK => ?_⟩
        unfold Oper.wp
        go_simp
        exact hK _ _ (Below.refl _ _) rfl
      · obtain rfl := Option.some.inj ho
        have fg : ac.tmps.getD 60 undef = .bool true := hF.fact 51 _ _ rfl rfl (dep hd 51 (by kernel_rfl))
        refine ⟨wanted_true (g := 51) rfl rfl rfl fg, fun K hK => ?_⟩
        unfold Oper.wp
        go_simp
        refine (wakes_any F _ (F.keep _ _ hTq hF.cls)).mono ?_
        rintro e w' ⟨rfl, hB⟩
        exact hK _ _ hB rfl
      · obtain rfl := Option.some.inj ho
        have f60 : ac.tmps.getD 60 undef = .bool true := hF.fact 51 _ _ rfl rfl (dep hd 51 (by kernel_rfl))
        have f61 : ac.tmps.getD 61 undef = .bool true := hF.fact 52 _ _ rfl rfl (dep hd 52 (by kernel_rfl))
        refine ⟨wanted_free rfl, fun K hK => ?_⟩
        unfold Oper.wp
        go_simp
        exact hK _ _ (Below.refl _ _) rfl
      · obtain rfl := Option.some.inj ho
        have f62 : ac.tmps.getD 62 undef = .bool true := hF.fact 53 _ _ rfl rfl (dep hd 53 (by kernel_rfl))
        refine ⟨wanted_free rfl, fun K hK => ?_⟩
        unfold Oper.wp
        go_simp
        exact hK _ _ (Below.refl _ _) rfl
      · cases ho
    · intro L ac wc hL hF
      have f4 : ac.tmps.getD 4 undef = .bool true := hF.fact 54 _ 4 rfl rfl (hL 54 (by decide))
      have hb' := (hK2.below hF.cls).2
      go_wp2
      exact bodyPost_ret (results_tmp rfl _ _ _) hF.defers ⟨by rw [f4], hb'⟩
end Go.Proofs.YtaefjbklioljnabDoor
