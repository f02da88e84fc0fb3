/- The walk of the law FieldRoot, over the program's functions by their contracts. -/
import Derived.Test.YtaefjbklioljnaaDoorE14
import Derived.Test.YtaefjbklioljnaaDoorE13
import Derived.Test.YtaefjbklioljnaaDoorE12
import Derived.Test.YtaefjbklioljnaaDoorF12
namespace Go.Proofs.YtaefjbklioljnaaDoor
open Go.RowKit
theorem wanted_undef {ops : Array Oper} {o og : Oper} {a : Act} {g d : Nat} {b : Bool} (h : o.guard = some (g, b)) (hg : ops[g]? = some og) (hd : og.dst = some d) (hv : a.tmps.getD d undef = undef) : Region.wanted o (yielded ops a.tmps) = false := by
  have h1 : a.tmps[d]? = some undef ∨ a.tmps[d]? = none := by
    by_cases hs : d < a.tmps.size
    · simp [Array.getD, hs] at hv; left; simp [hs, hv]
    · right; simp; omega
  rcases h1 with h1 | h1 <;> simp [Region.wanted, h, yielded, hg, hd, h1, undef]
theorem froot_mod (n : Nat) : froot (n % pp) = froot n := by
  rw [froot_of, froot_of, ← Nat.pow_mod]
  generalize n ^ ((pp + 3) / 8) % pp = r
  unfold rootOf
  rw [Nat.mod_mod]
theorem even_byte {z : Nat} (h : z % 2 = 0) : bits .and .u8 (bdig z 0 : Int) 1 = 0 := by
  have e : bdig z 0 = z % 256 := by unfold bdig; rw [Nat.pow_zero, Nat.div_one]
  have hl := bdig_lt z 0
  have h2 : bdig z 0 % 2 = 0 := by rw [e]; omega
  generalize bdig z 0 = x at *
  show IntKind.u8.wrap ((BitVec.ofInt 8 (x : Int) &&& BitVec.ofInt 8 1).toNat : Nat) = 0
  have key : (BitVec.ofInt 8 (x : Int) &&& BitVec.ofInt 8 1).toNat = x % 2 := by
    rw [BitVec.toNat_and, BitVec.toNat_ofInt, show (BitVec.ofInt 8 1).toNat = 2 ^ 1 - 1 by decide, Nat.and_two_pow_sub_one_eq_mod]
    omega
  rw [key, h2]
  decide
def val3t (z : Nat) : Nat → Value
  | 0 => .bool true
  | 1 => .bool true
  | 2 => .bool false
  | 3 => .bool false
  | 4 => .bool true
  | 5 => .bool true
  | 6 => .agg (B32 (bdig z))
  | 7 => .agg (numA z)
  | 8 => .agg (B32 (bdig z))
  | 9 => .bool false
  | 10 => .bool false
  | 11 => .bool false
  | 12 => .bool false
  | 13 => .bool true
  | 14 => .bool false
  | 15 => .bool false
  | 19 => .bool false
  | 20 => .bool false
  | _ => undef
def val3f (_ : Nat) : Nat → Value
  | 0 => .bool false
  | 1 => .bool false
  | 2 => .bool false
  | 3 => .bool false
  | 4 => .bool false
  | 5 => .bool false
  | 10 => .bool false
  | 11 => .bool false
  | 12 => .bool false
  | 13 => .bool false
  | 14 => .bool true
  | 15 => .bool true
  | 16 => .agg (B32 (bdig 0))
  | 17 => .agg (B32 (bdig 0))
  | 18 => .bool false
  | 19 => .bool false
  | 20 => .bool false
  | _ => undef
def val5t (z m a bX : Nat) : Nat → Value
  | 0 => .bool true
  | 1 => .bool true
  | 2 => .agg (B32 (bdig z))
  | 3 => .agg (B32 (bdig z))
  | 4 => .agg (B32 (bdig m))
  | 5 => .agg (B32 (bdig a))
  | 6 => .agg (B32 (bdig m))
  | 7 => .bool false
  | 8 => .bool false
  | 9 => .pointer (some ⟨bX, 0, none⟩)
  | 10 => .int .u8 (bdig z 0 : Int)
  | 11 => .int .u8 0
  | 12 => .bool false
  | 13 => .bool false
  | 14 => .bool false
  | 15 => .agg (B32 (bdig z))
  | 16 => .bool true
  | 17 => .bool false
  | 18 => .bool false
  | 19 => .bool false
  | _ => undef
def val5f (_ : Nat) : Nat → Value
  | 0 => .bool false
  | 1 => .bool false
  | 19 => .bool false
  | _ => undef
def val10t (m : Nat) : Nat → Value
  | 0 => .bool true
  | 1 => .bool true
  | 2 => .agg (B32 (bdig m))
  | 3 => .agg (B32 (bdig m))
  | 4 => .bool true
  | 5 => .bool true
  | 11 => .bool true
  | 12 => .bool true
  | 13 => .bool true
  | 14 => .bool true
  | 15 => .bool true
  | 16 => .bool true
  | _ => undef
def val10f (y m : Nat) : Nat → Value
  | 0 => .bool true
  | 1 => .bool true
  | 2 => .agg (B32 (bdig y))
  | 3 => .agg (B32 (bdig m))
  | 4 => .bool false
  | 5 => .bool false
  | 6 => .agg (B32 (bdig y))
  | 7 => .agg (B32 (bdig 0))
  | 8 => .agg (B32 (bdig m))
  | 9 => .agg (B32 (bdig y))
  | 10 => .bool true
  | 11 => .bool true
  | 12 => .bool true
  | 13 => .bool true
  | 14 => .bool true
  | 15 => .bool true
  | 16 => .bool true
  | _ => undef

/-- The program's root, by what it answers. -/
def FRoot (T : World → Prop) : Prop := ∀ a, a < R256 → ∀ w, T w → Calls Tryd.prog 25 #[.agg (B32 (bdig a))] w fun x w' => x = .returned (rootBo (froot a)) ∧ Below w.heap.size w w'
set_option maxRecDepth 100000 in
set_option maxHeartbeats 16000000 in
theorem root_walk {T : World → Prop} (F : Fld T) (hR : FRoot T) (a : Nat) (ha : a < R256) (w : World) (hT : T w) : Calls Tryd.prog 5 #[.agg (B32 (bdig a))] w fun x w' => x = .returned (.bool true) ∧ Below w.heap.size w w' := by
  have hz0 := (zero_of_info zeroB32).1
  have hzN := (zero_of_info zeroLit).1
  obtain ⟨m, Hm⟩ : ∃ x, Hid (a % pp = x) := ⟨_, rfl⟩
  have hm : m < R256 := by rw [← Hm.out]; exact lt_of_mod
  have hmp : Hid (m < pp) := by show _ < _; rw [← Hm.out]; exact Nat.mod_lt _ pp_pos
  obtain ⟨q, Hq⟩ : ∃ x, Hid (a * a % pp = x) := ⟨_, rfl⟩
  have hq : q < R256 := by rw [← Hq.out]; exact lt_of_mod
  obtain ⟨y, Hy, hy, Hor⟩ : ∃ y, Hid (rootBo (froot q) = .tuple #[.agg (B32 (bdig y)), .bool true]) ∧ y < R256 ∧ Hid (y = m ∨ y = (pp - m) % pp) := by
    obtain ⟨y, h1, h2⟩ := froot_sq a
    refine ⟨y, ?_, ?_, ?_⟩
    · show _ = _
      rw [← Hq.out, froot_mod, h1, rootBo]
    · exact Nat.lt_trans (froot_some h1).1 (by decide)
    · show _ ∨ _
      rw [← Hm.out]; exact h2
  have same_m := B32_same m hm
  have same_y := B32_same y hy
  have same_0 := B32_same 0 (by decide)
  obtain ⟨Vr, HVr⟩ : ∃ x, Hid (rootBo (froot a) = x) := ⟨_, rfl⟩
  go_enter Tryd.func5, Tryd.ntmps5
  go_upto_region 1 with fail
  have hK := (Kp.nil w).alloc (B32 (bdig a)) 22
  generalize w.alloc (.cells (B32 (bdig a)) 22) = W at *
  obtain ⟨bA, HA⟩ : ∃ bA, Hid (w.heap.size = bA) := ⟨_, rfl⟩
  rw [HA.out] at hK ⊢
  go_wp2_with (refine wpList_load_own (by rfl) 22 (.tmp 1) (by rfl) bA (by rfl) (B32 (bdig a)) _ hK.h1 Tryd.underlying22 (by rfl) (B32_info _) ?_)
  refine (hR a ha W (F.keep _ _ hT hK.2)).mono ?_
  rintro e w1 ⟨rfl, b1⟩
  rw [HVr.out]
  have hcase : (∃ z, Vr = .tuple #[.agg (B32 (bdig z)), .bool true] ∧ rootV a = .tuple #[.agg (numA z), .bool true] ∧ z < pp ∧ z % 2 = 0 ∧ z * z % pp = m) ∨ (Vr = .tuple #[.agg (B32 (bdig 0)), .bool false] ∧ rootV a = .tuple #[.agg (numA 0), .bool false]) := by
    unfold rootV
    rw [← HVr.out, ← Hm.out]
    cases h : froot a with
    | none => exact .inr ⟨rfl, rfl⟩
    | some z => exact .inl ⟨z, rfl, rfl, (froot_some h).1, (froot_some h).2.1, (froot_some h).2.2⟩
  rcases hcase with ⟨z, rfl, hp, hzp, hz2, hzz⟩ | ⟨rfl, hp⟩
  · have Hp := show Hid _ from hp
    have Hzp := show Hid _ from hzp
    have Hzz := show Hid _ from hzz
    have Heven : Hid (bits .and .u8 (bdig z 0 : Int) 1 = 0) := even_byte hz2
    have hz : z < R256 := Nat.lt_trans hzp (by decide)
    have same_z := B32_same z hz
    clear hp hzp hz2 hzz
    go_upto_region 2 with (refine wpList_store_new (by rfl) 22 (.tmp 3) (.tmp 13) (by rfl) _ (B32 (bdig z)) (by rfl) (by rfl) (B32_info _) (B32_sizes _ _) (B32_one _) (by rfl) ?_)
    have hK := (hK.below b1).alloc (B32 (bdig z)) 22
    generalize w1.alloc (.cells (B32 (bdig z)) 22) = w2 at *
    generalize w1.heap.size = bX at *
    go_wp2_with (refine wpList_load_own (by rfl) 22 (.tmp 1) (by rfl) bA (by rfl) (B32 (bdig a)) _ hK.h2 Tryd.underlying22 (by rfl) (B32_info _) ?_)
    refine (of_any a ha w2).mono ?_
    rintro e w3 ⟨rfl, b3⟩
    have hK := hK.below b3
    go_wp2_with fail
    refine (root_any a ha w3).mono ?_
    rintro e w4 ⟨rfl, b4⟩
    rw [Hp.out]
    have hK := hK.below b4
    go_upto_region 3 with (refine wpList_store_new (by rfl) 25 (.tmp 5) (.tmp 19) (by rfl) _ (numA z) (by rfl) (by rfl) (numA_info _) (lit4_size _ _ _ _ _) (numA_one _) (by rfl) ?_)
    have hK := hK.alloc (numA z) 25
    generalize w4.alloc (.cells (numA z) 25) = w4b at *
    generalize w4.heap.size = bY at *
    refine wp_region_vals 88 (by kernel_rfl) (by kernel_rfl) (by rfl) (val3t z) (fun _ => Kp [(bY, numA z, 25), (bX, B32 (bdig z), 22), (bA, B32 (bdig a), 22)] w) hK.drew ?_ ?_
    · intro L ac wc i o hF hLi ho hd K hK
      rcases i with _ | _ | _ | _ | _ | _ | _ | _ | _ | _ | _ | _ | _ | _ | _ | _ | _ | _ | _ | _ | _ | i
      · have ho' := ho
        obtain rfl := Option.some.inj ho
        have f4 : ac.tmps.getD 4 undef = .bool true := slotv hF 0 hLi 4 (by kernel_rfl)
        refine step_do ho' (wanted_free rfl) ?_
        unfold Oper.wp
        go_simp
        exact hK _ _ (.inr rfl) hF.j
      · have ho' := ho
        obtain rfl := Option.some.inj ho
        have f6 : ac.tmps.getD 6 undef = .bool true := slotv hF 1 hLi 6 (by kernel_rfl)
        refine step_do ho' (wanted_free rfl) ?_
        unfold Oper.wp
        go_simp
        exact hK _ _ (.inr rfl) hF.j
      · have ho' := ho
        obtain rfl := Option.some.inj ho
        have f21 : ac.tmps.getD 21 undef = .bool true := valv hF hd 0 rfl rfl (by kernel_rfl)
        have f22 : ac.tmps.getD 22 undef = .bool true := valv hF hd 1 rfl rfl (by kernel_rfl)
        refine step_do ho' (wanted_free rfl) ?_
        unfold Oper.wp
        go_simp
        exact hK _ _ (.inr rfl) hF.j
      · have ho' := ho
        obtain rfl := Option.some.inj ho
        have f23 : ac.tmps.getD 23 undef = .bool false := valv hF hd 2 rfl rfl (by kernel_rfl)
        refine step_do ho' (wanted_free rfl) ?_
        unfold Oper.wp
        go_simp
        exact hK _ _ (.inr rfl) hF.j
      · have ho' := ho
        obtain rfl := Option.some.inj ho
        have f4 : ac.tmps.getD 4 undef = .bool true := slotv hF 4 hLi 4 (by kernel_rfl)
        have fg : ac.tmps.getD 24 undef = .bool false := valv hF hd 3 rfl rfl (by kernel_rfl)
        refine step_do ho' (wanted_so (g := 3) rfl rfl rfl fg) ?_
        unfold Oper.wp
        go_simp
        exact hK _ _ (.inr rfl) hF.j
      · have ho' := ho
        obtain rfl := Option.some.inj ho
        have f25 : ac.tmps.getD 25 undef = .bool true := valv hF hd 4 rfl rfl (by kernel_rfl)
        have fg : ac.tmps.getD 24 undef = .bool false := valv hF hd 3 rfl rfl (by kernel_rfl)
        refine step_do ho' (wanted_so (g := 3) rfl rfl rfl fg) ?_
        unfold Oper.wp
        go_simp
        exact hK _ _ (.inr rfl) hF.j
      · have ho' := ho
        obtain rfl := Option.some.inj ho
        have f3 : ac.tmps.getD 3 undef = .pointer (some ⟨bX, 0, none⟩) := slotv hF 6 hLi 3 (by kernel_rfl)
        have fg : ac.tmps.getD 26 undef = .bool true := valv hF hd 5 rfl rfl (by kernel_rfl)
        refine step_do ho' (wanted_so (g := 5) rfl rfl rfl fg) ?_
        exact wp_load_own 22 (.tmp 3) rfl bX f3 (B32 (bdig z)) _ 22 (hF.j.at bX (B32 (bdig z)) 22 (by simp)) Tryd.underlying22 rfl (B32_info _) (hK _ _ (.inr rfl) hF.j)
      · have ho' := ho
        obtain rfl := Option.some.inj ho
        have f5 : ac.tmps.getD 5 undef = .pointer (some ⟨bY, 0, none⟩) := slotv hF 7 hLi 5 (by kernel_rfl)
        have fg : ac.tmps.getD 26 undef = .bool true := valv hF hd 5 rfl rfl (by kernel_rfl)
        refine step_do ho' (wanted_so (g := 5) rfl rfl rfl fg) ?_
        exact wp_load_own 25 (.tmp 5) rfl bY f5 (numA z) _ 25 (hF.j.at bY (numA z) 25 (by simp)) Tryd.underlying25 rfl (numA_info _) (hK _ _ (.inr rfl) hF.j)
      · have ho' := ho
        obtain rfl := Option.some.inj ho
        have f28 : ac.tmps.getD 28 undef = .agg (numA z) := valv hF hd 7 rfl rfl (by kernel_rfl)
        have fg : ac.tmps.getD 26 undef = .bool true := valv hF hd 5 rfl rfl (by kernel_rfl)
        refine step_do ho' (wanted_so (g := 5) rfl rfl rfl fg) ?_
        unfold Oper.wp
        go_simp
        refine (bytesOf_any z _).mono ?_
        rintro e w' ⟨rfl, hB⟩
        exact hK _ _ (.inr rfl) (hF.j.below hB)
      · have ho' := ho
        obtain rfl := Option.some.inj ho
        have f27 : ac.tmps.getD 27 undef = .agg (B32 (bdig z)) := valv hF hd 6 rfl rfl (by kernel_rfl)
        have f29 : ac.tmps.getD 29 undef = .agg (B32 (bdig z)) := valv hF hd 8 rfl rfl (by kernel_rfl)
        have fg : ac.tmps.getD 26 undef = .bool true := valv hF hd 5 rfl rfl (by kernel_rfl)
        refine step_do ho' (wanted_so (g := 5) rfl rfl rfl fg) ?_
        unfold Oper.wp
        go_simp
        exact hK _ _ (.inr rfl) hF.j
      · have ho' := ho
        obtain rfl := Option.some.inj ho
        have f26 : ac.tmps.getD 26 undef = .bool true := valv hF hd 5 rfl rfl (by kernel_rfl)
        have f30 : ac.tmps.getD 30 undef = .bool false := valv hF hd 9 rfl rfl (by kernel_rfl)
        have fg : ac.tmps.getD 24 undef = .bool false := valv hF hd 3 rfl rfl (by kernel_rfl)
        refine step_do ho' (wanted_so (g := 3) rfl rfl rfl fg) ?_
        unfold Oper.wp
        go_simp
        exact hK _ _ (.inr rfl) hF.j
      · have ho' := ho
        obtain rfl := Option.some.inj ho
        have f24 : ac.tmps.getD 24 undef = .bool false := valv hF hd 3 rfl rfl (by kernel_rfl)
        have f31 : ac.tmps.getD 31 undef = .bool false := valv hF hd 10 rfl rfl (by kernel_rfl)
        refine step_do ho' (wanted_free rfl) ?_
        unfold Oper.wp
        go_simp
        exact hK _ _ (.inr rfl) hF.j
      · have ho' := ho
        obtain rfl := Option.some.inj ho
        have f32 : ac.tmps.getD 32 undef = .bool false := valv hF hd 11 rfl rfl (by kernel_rfl)
        refine step_do ho' (wanted_free rfl) ?_
        unfold Oper.wp
        go_simp
        exact hK _ _ (.inr rfl) hF.j
      · have ho' := ho
        obtain rfl := Option.some.inj ho
        have f4 : ac.tmps.getD 4 undef = .bool true := slotv hF 13 hLi 4 (by kernel_rfl)
        have fg : ac.tmps.getD 33 undef = .bool false := valv hF hd 12 rfl rfl (by kernel_rfl)
        refine step_do ho' (wanted_so (g := 12) rfl rfl rfl fg) ?_
        unfold Oper.wp
        go_simp
        exact hK _ _ (.inr rfl) hF.j
      · have ho' := ho
        obtain rfl := Option.some.inj ho
        have f34 : ac.tmps.getD 34 undef = .bool true := valv hF hd 13 rfl rfl (by kernel_rfl)
        have fg : ac.tmps.getD 33 undef = .bool false := valv hF hd 12 rfl rfl (by kernel_rfl)
        refine step_do ho' (wanted_so (g := 12) rfl rfl rfl fg) ?_
        unfold Oper.wp
        go_simp
        exact hK _ _ (.inr rfl) hF.j
      · have ho' := ho
        obtain rfl := Option.some.inj ho
        have f35 : ac.tmps.getD 35 undef = .bool false := valv hF hd 14 rfl rfl (by kernel_rfl)
        have fg : ac.tmps.getD 33 undef = .bool false := valv hF hd 12 rfl rfl (by kernel_rfl)
        refine step_do ho' (wanted_so (g := 12) rfl rfl rfl fg) ?_
        unfold Oper.wp
        go_simp
        exact hK _ _ (.inr rfl) hF.j
      · have ho' := ho
        obtain rfl := Option.some.inj ho
        have fg : ac.tmps.getD 36 undef = .bool false := valv hF hd 15 rfl rfl (by kernel_rfl)
        refine step_pass ho' (wanted_not (g := 15) rfl rfl rfl fg (by decide)) (hK _ _ (.inr rfl) hF.j)
      · have ho' := ho
        obtain rfl := Option.some.inj ho
        have fg : ac.tmps.getD 36 undef = .bool false := valv hF hd 15 rfl rfl (by kernel_rfl)
        refine step_pass ho' (wanted_not (g := 15) rfl rfl rfl fg (by decide)) (hK _ _ (.inr rfl) hF.j)
      · have ho' := ho
        obtain rfl := Option.some.inj ho
        have fg : ac.tmps.getD 36 undef = .bool false := valv hF hd 15 rfl rfl (by kernel_rfl)
        refine step_pass ho' (wanted_not (g := 15) rfl rfl rfl fg (by decide)) (hK _ _ (.inr rfl) hF.j)
      · have ho' := ho
        obtain rfl := Option.some.inj ho
        have f36 : ac.tmps.getD 36 undef = .bool false := valv hF hd 15 rfl rfl (by kernel_rfl)
        have fg : ac.tmps.getD 33 undef = .bool false := valv hF hd 12 rfl rfl (by kernel_rfl)
        refine step_do ho' (wanted_so (g := 12) rfl rfl rfl fg) ?_
        unfold Oper.wp
        go_simp
        exact hK _ _ (.inr rfl) hF.j
      · have ho' := ho
        obtain rfl := Option.some.inj ho
        have f33 : ac.tmps.getD 33 undef = .bool false := valv hF hd 12 rfl rfl (by kernel_rfl)
        have f40 : ac.tmps.getD 40 undef = .bool false := valv hF hd 19 rfl rfl (by kernel_rfl)
        refine step_do ho' (wanted_free rfl) ?_
        unfold Oper.wp
        go_simp
        exact hK _ _ (.inr rfl) hF.j
      · cases ho
    · intro L wr hL hK3
      simp only [putAll, val3t, Act.put, List.setIfInBounds_toArray, List.set_cons_succ, List.set_cons_zero]
      clear hL
      clear hK
      go_upto_region 5 with fail
      refine wp_region_vals 88 (by kernel_rfl) (by kernel_rfl) (by rfl) (val5t z m a bX) (fun _ => Kp [(bY, numA z, 25), (bX, B32 (bdig z), 22), (bA, B32 (bdig a), 22)] w) hK3.drew ?_ ?_
      · intro L ac wc i o hF hLi ho hd K hK
        rcases i with _ | _ | _ | _ | _ | _ | _ | _ | _ | _ | _ | _ | _ | _ | _ | _ | _ | _ | _ | _ | i
        · have ho' := ho
          obtain rfl := Option.some.inj ho
          have f4 : ac.tmps.getD 4 undef = .bool true := slotv hF 0 hLi 4 (by kernel_rfl)
          refine step_do ho' (wanted_free rfl) ?_
          unfold Oper.wp
          go_simp
          exact hK _ _ (.inr rfl) hF.j
        · have ho' := ho
          obtain rfl := Option.some.inj ho
          have f42 : ac.tmps.getD 42 undef = .bool true := valv hF hd 0 rfl rfl (by kernel_rfl)
          refine step_do ho' (wanted_free rfl) ?_
          unfold Oper.wp
          go_simp
          exact hK _ _ (.inr rfl) hF.j
        · have ho' := ho
          obtain rfl := Option.some.inj ho
          have f3 : ac.tmps.getD 3 undef = .pointer (some ⟨bX, 0, none⟩) := slotv hF 2 hLi 3 (by kernel_rfl)
          have fg : ac.tmps.getD 43 undef = .bool true := valv hF hd 1 rfl rfl (by kernel_rfl)
          refine step_do ho' (wanted_so (g := 1) rfl rfl rfl fg) ?_
          exact wp_load_own 22 (.tmp 3) rfl bX f3 (B32 (bdig z)) _ 22 (hF.j.at bX (B32 (bdig z)) 22 (by simp)) Tryd.underlying22 rfl (B32_info _) (hK _ _ (.inr rfl) hF.j)
        · have ho' := ho
          obtain rfl := Option.some.inj ho
          have f3 : ac.tmps.getD 3 undef = .pointer (some ⟨bX, 0, none⟩) := slotv hF 3 hLi 3 (by kernel_rfl)
          have fg : ac.tmps.getD 43 undef = .bool true := valv hF hd 1 rfl rfl (by kernel_rfl)
          refine step_do ho' (wanted_so (g := 1) rfl rfl rfl fg) ?_
          exact wp_load_own 22 (.tmp 3) rfl bX f3 (B32 (bdig z)) _ 22 (hF.j.at bX (B32 (bdig z)) 22 (by simp)) Tryd.underlying22 rfl (B32_info _) (hK _ _ (.inr rfl) hF.j)
        · have ho' := ho
          obtain rfl := Option.some.inj ho
          have f44 : ac.tmps.getD 44 undef = .agg (B32 (bdig z)) := valv hF hd 2 rfl rfl (by kernel_rfl)
          have f45 : ac.tmps.getD 45 undef = .agg (B32 (bdig z)) := valv hF hd 3 rfl rfl (by kernel_rfl)
          have fg : ac.tmps.getD 43 undef = .bool true := valv hF hd 1 rfl rfl (by kernel_rfl)
          refine step_do ho' (wanted_so (g := 1) rfl rfl rfl fg) ?_
          unfold Oper.wp
          go_simp
          refine (F.mulA hz hz Hzz.out _ (F.keep _ _ hT hF.j.2)).mono ?_
          rintro e w' ⟨rfl, hB⟩
          exact hK _ _ (.inr rfl) (hF.j.below hB)
        · have ho' := ho
          obtain rfl := Option.some.inj ho
          have f1 : ac.tmps.getD 1 undef = .pointer (some ⟨bA, 0, none⟩) := slotv hF 5 hLi 1 (by kernel_rfl)
          have fg : ac.tmps.getD 43 undef = .bool true := valv hF hd 1 rfl rfl (by kernel_rfl)
          refine step_do ho' (wanted_so (g := 1) rfl rfl rfl fg) ?_
          exact wp_load_own 22 (.tmp 1) rfl bA f1 (B32 (bdig a)) _ 22 (hF.j.at bA (B32 (bdig a)) 22 (by simp)) Tryd.underlying22 rfl (B32_info _) (hK _ _ (.inr rfl) hF.j)
        · have ho' := ho
          obtain rfl := Option.some.inj ho
          have f47 : ac.tmps.getD 47 undef = .agg (B32 (bdig a)) := valv hF hd 5 rfl rfl (by kernel_rfl)
          have fg : ac.tmps.getD 43 undef = .bool true := valv hF hd 1 rfl rfl (by kernel_rfl)
          refine step_do ho' (wanted_so (g := 1) rfl rfl rfl fg) ?_
          unfold Oper.wp
          go_simp
          refine (F.modA ha Hm.out _ (F.keep _ _ hT hF.j.2)).mono ?_
          rintro e w' ⟨rfl, hB⟩
          exact hK _ _ (.inr rfl) (hF.j.below hB)
        · have ho' := ho
          obtain rfl := Option.some.inj ho
          have f46 : ac.tmps.getD 46 undef = .agg (B32 (bdig m)) := valv hF hd 4 rfl rfl (by kernel_rfl)
          have f48 : ac.tmps.getD 48 undef = .agg (B32 (bdig m)) := valv hF hd 6 rfl rfl (by kernel_rfl)
          have fg : ac.tmps.getD 43 undef = .bool true := valv hF hd 1 rfl rfl (by kernel_rfl)
          refine step_do ho' (wanted_so (g := 1) rfl rfl rfl fg) ?_
          unfold Oper.wp
          go_simp
          exact hK _ _ (.inr rfl) hF.j
        · have ho' := ho
          obtain rfl := Option.some.inj ho
          have f49 : ac.tmps.getD 49 undef = .bool false := valv hF hd 7 rfl rfl (by kernel_rfl)
          have fg : ac.tmps.getD 43 undef = .bool true := valv hF hd 1 rfl rfl (by kernel_rfl)
          refine step_do ho' (wanted_so (g := 1) rfl rfl rfl fg) ?_
          unfold Oper.wp
          go_simp
          exact hK _ _ (.inr rfl) hF.j
        · have ho' := ho
          obtain rfl := Option.some.inj ho
          have f3 : ac.tmps.getD 3 undef = .pointer (some ⟨bX, 0, none⟩) := slotv hF 9 hLi 3 (by kernel_rfl)
          have fg : ac.tmps.getD 50 undef = .bool false := valv hF hd 8 rfl rfl (by kernel_rfl)
          refine step_do ho' (wanted_so (g := 8) rfl rfl rfl fg) ?_
          unfold Oper.wp
          go_simp
          exact hK _ _ (.inr rfl) hF.j
        · have ho' := ho
          obtain rfl := Option.some.inj ho
          have f51 : ac.tmps.getD 51 undef = .pointer (some ⟨bX, 0, none⟩) := valv hF hd 9 rfl rfl (by kernel_rfl)
          have fg : ac.tmps.getD 50 undef = .bool false := valv hF hd 8 rfl rfl (by kernel_rfl)
          refine step_do ho' (wanted_so (g := 8) rfl rfl rfl fg) ?_
          have c0 := (hF.j.at bX (B32 (bdig z)) 22 (by simp)).cell (B32_at (bdig z) 0 (by decide))
          unfold Oper.wp
          go_simp
          exact hK _ _ (.inr rfl) hF.j
        · have ho' := ho
          obtain rfl := Option.some.inj ho
          have f52 : ac.tmps.getD 52 undef = .int .u8 (bdig z 0 : Int) := valv hF hd 10 rfl rfl (by kernel_rfl)
          have fg : ac.tmps.getD 50 undef = .bool false := valv hF hd 8 rfl rfl (by kernel_rfl)
          refine step_do ho' (wanted_so (g := 8) rfl rfl rfl fg) ?_
          unfold Oper.wp
          go_simp
          rw [Heven.out]
          exact hK _ _ (.inr rfl) hF.j
        · have ho' := ho
          obtain rfl := Option.some.inj ho
          have f53 : ac.tmps.getD 53 undef = .int .u8 0 := valv hF hd 11 rfl rfl (by kernel_rfl)
          have fg : ac.tmps.getD 50 undef = .bool false := valv hF hd 8 rfl rfl (by kernel_rfl)
          refine step_do ho' (wanted_so (g := 8) rfl rfl rfl fg) ?_
          unfold Oper.wp
          go_simp
          exact hK _ _ (.inr rfl) hF.j
        · have ho' := ho
          obtain rfl := Option.some.inj ho
          have f50 : ac.tmps.getD 50 undef = .bool false := valv hF hd 8 rfl rfl (by kernel_rfl)
          have f54 : ac.tmps.getD 54 undef = .bool false := valv hF hd 12 rfl rfl (by kernel_rfl)
          have fg : ac.tmps.getD 43 undef = .bool true := valv hF hd 1 rfl rfl (by kernel_rfl)
          refine step_do ho' (wanted_so (g := 1) rfl rfl rfl fg) ?_
          unfold Oper.wp
          go_simp
          exact hK _ _ (.inr rfl) hF.j
        · have ho' := ho
          obtain rfl := Option.some.inj ho
          have f55 : ac.tmps.getD 55 undef = .bool false := valv hF hd 13 rfl rfl (by kernel_rfl)
          have fg : ac.tmps.getD 43 undef = .bool true := valv hF hd 1 rfl rfl (by kernel_rfl)
          refine step_do ho' (wanted_so (g := 1) rfl rfl rfl fg) ?_
          unfold Oper.wp
          go_simp
          exact hK _ _ (.inr rfl) hF.j
        · have ho' := ho
          obtain rfl := Option.some.inj ho
          have f3 : ac.tmps.getD 3 undef = .pointer (some ⟨bX, 0, none⟩) := slotv hF 15 hLi 3 (by kernel_rfl)
          have fg : ac.tmps.getD 56 undef = .bool false := valv hF hd 14 rfl rfl (by kernel_rfl)
          refine step_do ho' (wanted_so (g := 14) rfl rfl rfl fg) ?_
          exact wp_load_own 22 (.tmp 3) rfl bX f3 (B32 (bdig z)) _ 22 (hF.j.at bX (B32 (bdig z)) 22 (by simp)) Tryd.underlying22 rfl (B32_info _) (hK _ _ (.inr rfl) hF.j)
        · have ho' := ho
          obtain rfl := Option.some.inj ho
          have f57 : ac.tmps.getD 57 undef = .agg (B32 (bdig z)) := valv hF hd 15 rfl rfl (by kernel_rfl)
          have fg : ac.tmps.getD 56 undef = .bool false := valv hF hd 14 rfl rfl (by kernel_rfl)
          refine step_do ho' (wanted_so (g := 14) rfl rfl rfl fg) ?_
          unfold Oper.wp
          go_simp
          refine (F.check z hz _ (F.keep _ _ hT hF.j.2)).mono ?_
          rintro e w' ⟨rfl, hB⟩
          rw [decide_eq_true Hzp.out]
          exact hK _ _ (.inr rfl) (hF.j.below hB)
        · have ho' := ho
          obtain rfl := Option.some.inj ho
          have f58 : ac.tmps.getD 58 undef = .bool true := valv hF hd 16 rfl rfl (by kernel_rfl)
          have fg : ac.tmps.getD 56 undef = .bool false := valv hF hd 14 rfl rfl (by kernel_rfl)
          refine step_do ho' (wanted_so (g := 14) rfl rfl rfl fg) ?_
          unfold Oper.wp
          go_simp
          exact hK _ _ (.inr rfl) hF.j
        · have ho' := ho
          obtain rfl := Option.some.inj ho
          have f56 : ac.tmps.getD 56 undef = .bool false := valv hF hd 14 rfl rfl (by kernel_rfl)
          have f59 : ac.tmps.getD 59 undef = .bool false := valv hF hd 17 rfl rfl (by kernel_rfl)
          have fg : ac.tmps.getD 43 undef = .bool true := valv hF hd 1 rfl rfl (by kernel_rfl)
          refine step_do ho' (wanted_so (g := 1) rfl rfl rfl fg) ?_
          unfold Oper.wp
          go_simp
          exact hK _ _ (.inr rfl) hF.j
        · have ho' := ho
          obtain rfl := Option.some.inj ho
          have f43 : ac.tmps.getD 43 undef = .bool true := valv hF hd 1 rfl rfl (by kernel_rfl)
          have f60 : ac.tmps.getD 60 undef = .bool false := valv hF hd 18 rfl rfl (by kernel_rfl)
          refine step_do ho' (wanted_free rfl) ?_
          unfold Oper.wp
          go_simp
          exact hK _ _ (.inr rfl) hF.j
        · cases ho
      · intro L w5 hL hK5
        simp only [putAll, val5t, Act.put, List.setIfInBounds_toArray, List.set_cons_succ, List.set_cons_zero]
        clear hL
        clear hK3
        go_upto_region 7 with fail
        have hA : Kp [(bA, B32 (bdig a), 22)] w w5 := hK5.sub (by simp)
        clear hK5
        go_wp2_with (refine wpList_load_own (by rfl) 22 (.tmp 1) (by rfl) bA (by rfl) (B32 (bdig a)) _ hA.h1 Tryd.underlying22 (by rfl) (B32_info _) ?_)
        refine (F.mulA ha ha Hq.out w5 (F.keep _ _ hT hA.2)).mono ?_
        rintro e w6 ⟨rfl, b6⟩
        have hA := hA.below b6
        go_upto_region 8 with (refine wpList_store_new (by rfl) 22 (.tmp 7) (.tmp 64) (by rfl) _ (B32 (bdig q)) (by rfl) (by rfl) (B32_info _) (B32_sizes _ _) (B32_one _) (by rfl) ?_)
        have hA := hA.alloc (B32 (bdig q)) 22
        generalize w6.alloc (.cells (B32 (bdig q)) 22) = w7 at *
        generalize w6.heap.size = bQ at *
        go_wp2_with (refine wpList_load_own (by rfl) 22 (.tmp 7) (by rfl) bQ (by rfl) (B32 (bdig q)) _ hA.h1 Tryd.underlying22 (by rfl) (B32_info _) ?_)
        refine (hR q hq w7 (F.keep _ _ hT hA.2)).mono ?_
        rintro e w8 ⟨rfl, b8⟩
        rw [Hy.out]
        have hA := hA.below b8
        go_upto_region 9 with (refine wpList_store_new (by rfl) 22 (.tmp 8) (.tmp 68) (by rfl) _ (B32 (bdig y)) (by rfl) (by rfl) (B32_info _) (B32_sizes _ _) (B32_one _) (by rfl) ?_)
        have hA := hA.alloc (B32 (bdig y)) 22
        generalize w8.alloc (.cells (B32 (bdig y)) 22) = w9 at *
        generalize w8.heap.size = bZ at *
        go_wp2_with (refine wpList_load_own (by rfl) 22 (.tmp 1) (by rfl) bA (by rfl) (B32 (bdig a)) _ (hA.at bA (B32 (bdig a)) 22 (by simp)) Tryd.underlying22 (by rfl) (B32_info _) ?_)
        refine (F.modA ha Hm.out w9 (F.keep _ _ hT hA.2)).mono ?_
        rintro e w10 ⟨rfl, b10⟩
        have hA := hA.below b10
        go_upto_region 10 with (refine wpList_store_new (by rfl) 22 (.tmp 9) (.tmp 71) (by rfl) _ (B32 (bdig m)) (by rfl) (by rfl) (B32_info _) (B32_sizes _ _) (B32_one _) (by rfl) ?_)
        have hA := hA.alloc (B32 (bdig m)) 22
        generalize w10.alloc (.cells (B32 (bdig m)) 22) = w11 at *
        generalize w10.heap.size = bM at *
        have hE : Kp [(bM, B32 (bdig m), 22), (bZ, B32 (bdig y), 22)] w w11 := hA.sub (by simp)
        clear hA
        by_cases hym : y = m
        · have Hym := show Hid _ from hym
          clear hym
          rw [Hym.out] at hE
          refine wp_region_vals 88 (by kernel_rfl) (by kernel_rfl) (by rfl) (val10t m) (fun _ => Kp [(bM, B32 (bdig m), 22), (bZ, B32 (bdig m), 22)] w) hE.drew ?_ ?_
          · intro L ac wc i o hF hLi ho hd K hK
            rcases i with _ | _ | _ | _ | _ | _ | _ | _ | _ | _ | _ | _ | _ | _ | _ | _ | _ | i
            · have ho' := ho
              obtain rfl := Option.some.inj ho
              have f4 : ac.tmps.getD 4 undef = .bool true := slotv hF 0 hLi 4 (by kernel_rfl)
              refine step_do ho' (wanted_free rfl) ?_
              unfold Oper.wp
              go_simp
              exact hK _ _ (.inr rfl) hF.j
            · have ho' := ho
              obtain rfl := Option.some.inj ho
              have f72 : ac.tmps.getD 72 undef = .bool true := valv hF hd 0 rfl rfl (by kernel_rfl)
              refine step_do ho' (wanted_free rfl) ?_
              unfold Oper.wp
              go_simp
              exact hK _ _ (.inr rfl) hF.j
            · have ho' := ho
              obtain rfl := Option.some.inj ho
              have f8 : ac.tmps.getD 8 undef = .pointer (some ⟨bZ, 0, none⟩) := slotv hF 2 hLi 8 (by kernel_rfl)
              have fg : ac.tmps.getD 73 undef = .bool true := valv hF hd 1 rfl rfl (by kernel_rfl)
              refine step_do ho' (wanted_so (g := 1) rfl rfl rfl fg) ?_
              exact wp_load_own 22 (.tmp 8) rfl bZ f8 (B32 (bdig m)) _ 22 (hF.j.at bZ (B32 (bdig m)) 22 (by simp)) Tryd.underlying22 rfl (B32_info _) (hK _ _ (.inr rfl) hF.j)
            · have ho' := ho
              obtain rfl := Option.some.inj ho
              have f9 : ac.tmps.getD 9 undef = .pointer (some ⟨bM, 0, none⟩) := slotv hF 3 hLi 9 (by kernel_rfl)
              have fg : ac.tmps.getD 73 undef = .bool true := valv hF hd 1 rfl rfl (by kernel_rfl)
              refine step_do ho' (wanted_so (g := 1) rfl rfl rfl fg) ?_
              exact wp_load_own 22 (.tmp 9) rfl bM f9 (B32 (bdig m)) _ 22 (hF.j.at bM (B32 (bdig m)) 22 (by simp)) Tryd.underlying22 rfl (B32_info _) (hK _ _ (.inr rfl) hF.j)
            · have ho' := ho
              obtain rfl := Option.some.inj ho
              have f74 : ac.tmps.getD 74 undef = .agg (B32 (bdig m)) := valv hF hd 2 rfl rfl (by kernel_rfl)
              have f75 : ac.tmps.getD 75 undef = .agg (B32 (bdig m)) := valv hF hd 3 rfl rfl (by kernel_rfl)
              have fg : ac.tmps.getD 73 undef = .bool true := valv hF hd 1 rfl rfl (by kernel_rfl)
              refine step_do ho' (wanted_so (g := 1) rfl rfl rfl fg) ?_
              unfold Oper.wp
              go_simp
              exact hK _ _ (.inr rfl) hF.j
            · have ho' := ho
              obtain rfl := Option.some.inj ho
              have f76 : ac.tmps.getD 76 undef = .bool true := valv hF hd 4 rfl rfl (by kernel_rfl)
              have fg : ac.tmps.getD 73 undef = .bool true := valv hF hd 1 rfl rfl (by kernel_rfl)
              refine step_do ho' (wanted_so (g := 1) rfl rfl rfl fg) ?_
              unfold Oper.wp
              go_simp
              exact hK _ _ (.inr rfl) hF.j
            · have ho' := ho
              obtain rfl := Option.some.inj ho
              have fg : ac.tmps.getD 77 undef = .bool true := valv hF hd 5 rfl rfl (by kernel_rfl)
              refine step_pass ho' (wanted_not (g := 5) rfl rfl rfl fg (by decide)) (hK _ _ (.inr rfl) hF.j)
            · have ho' := ho
              obtain rfl := Option.some.inj ho
              have fg : ac.tmps.getD 77 undef = .bool true := valv hF hd 5 rfl rfl (by kernel_rfl)
              refine step_pass ho' (wanted_not (g := 5) rfl rfl rfl fg (by decide)) (hK _ _ (.inr rfl) hF.j)
            · have ho' := ho
              obtain rfl := Option.some.inj ho
              have fg : ac.tmps.getD 77 undef = .bool true := valv hF hd 5 rfl rfl (by kernel_rfl)
              refine step_pass ho' (wanted_not (g := 5) rfl rfl rfl fg (by decide)) (hK _ _ (.inr rfl) hF.j)
            · have ho' := ho
              obtain rfl := Option.some.inj ho
              have fg : ac.tmps.getD 77 undef = .bool true := valv hF hd 5 rfl rfl (by kernel_rfl)
              refine step_pass ho' (wanted_not (g := 5) rfl rfl rfl fg (by decide)) (hK _ _ (.inr rfl) hF.j)
            · have ho' := ho
              obtain rfl := Option.some.inj ho
              have fg : ac.tmps.getD 77 undef = .bool true := valv hF hd 5 rfl rfl (by kernel_rfl)
              refine step_pass ho' (wanted_not (g := 5) rfl rfl rfl fg (by decide)) (hK _ _ (.inr rfl) hF.j)
            · have ho' := ho
              obtain rfl := Option.some.inj ho
              have f77 : ac.tmps.getD 77 undef = .bool true := valv hF hd 5 rfl rfl (by kernel_rfl)
              have fg : ac.tmps.getD 73 undef = .bool true := valv hF hd 1 rfl rfl (by kernel_rfl)
              refine step_do ho' (wanted_so (g := 1) rfl rfl rfl fg) ?_
              unfold Oper.wp
              go_simp
              exact hK _ _ (.inr rfl) hF.j
            · have ho' := ho
              obtain rfl := Option.some.inj ho
              have f73 : ac.tmps.getD 73 undef = .bool true := valv hF hd 1 rfl rfl (by kernel_rfl)
              have f83 : ac.tmps.getD 83 undef = .bool true := valv hF hd 11 rfl rfl (by kernel_rfl)
              refine step_do ho' (wanted_free rfl) ?_
              unfold Oper.wp
              go_simp
              exact hK _ _ (.inr rfl) hF.j
            · have ho' := ho
              obtain rfl := Option.some.inj ho
              have f84 : ac.tmps.getD 84 undef = .bool true := valv hF hd 12 rfl rfl (by kernel_rfl)
              refine step_do ho' (wanted_free rfl) ?_
              unfold Oper.wp
              go_simp
              exact hK _ _ (.inr rfl) hF.j
            · have ho' := ho
              obtain rfl := Option.some.inj ho
              have fg : ac.tmps.getD 85 undef = .bool true := valv hF hd 13 rfl rfl (by kernel_rfl)
              refine step_do ho' (wanted_so (g := 13) rfl rfl rfl fg) ?_
              unfold Oper.wp
              go_simp
              refine (wakes_any F _ (F.keep _ _ hT hF.j.2)).mono ?_
              rintro e w' ⟨rfl, hB⟩
              exact hK _ _ (.inr rfl) (hF.j.below hB)
            · have ho' := ho
              obtain rfl := Option.some.inj ho
              have f85 : ac.tmps.getD 85 undef = .bool true := valv hF hd 13 rfl rfl (by kernel_rfl)
              have f86 : ac.tmps.getD 86 undef = .bool true := valv hF hd 14 rfl rfl (by kernel_rfl)
              refine step_do ho' (wanted_free rfl) ?_
              unfold Oper.wp
              go_simp
              exact hK _ _ (.inr rfl) hF.j
            · have ho' := ho
              obtain rfl := Option.some.inj ho
              have f87 : ac.tmps.getD 87 undef = .bool true := valv hF hd 15 rfl rfl (by kernel_rfl)
              refine step_do ho' (wanted_free rfl) ?_
              unfold Oper.wp
              go_simp
              exact hK _ _ (.inr rfl) hF.j
            · cases ho
          · intro L w12 hL hG
            simp only [putAll, val10t, Act.put, List.setIfInBounds_toArray, List.set_cons_succ, List.set_cons_zero]
            clear hL
            go_wp2_with fail
            go_ret
            exact ⟨rfl, hG.2⟩
        · have hne : ∀ w, (Op.equalIn 10000 22 (.agg (B32 (bdig y))) (.agg (B32 (bdig m)))).run Tryd.prog w = .ok false w := fun w => by rw [B32_eq y m hy hm w, decide_eq_false hym]
          have Hsub : Hid ((0 % pp + pp - m % pp) % pp = y) := by show _ = _; rw [Nat.zero_mod, Nat.zero_add, Nat.mod_eq_of_lt hmp.out]; exact ((Hor.out.resolve_left hym)).symm
          clear hym
          refine wp_region_vals 88 (by kernel_rfl) (by kernel_rfl) (by rfl) (val10f y m) (fun _ => Kp [(bM, B32 (bdig m), 22), (bZ, B32 (bdig y), 22)] w) hE.drew ?_ ?_
          · intro L ac wc i o hF hLi ho hd K hK
            rcases i with _ | _ | _ | _ | _ | _ | _ | _ | _ | _ | _ | _ | _ | _ | _ | _ | _ | i
            · have ho' := ho
              obtain rfl := Option.some.inj ho
              have f4 : ac.tmps.getD 4 undef = .bool true := slotv hF 0 hLi 4 (by kernel_rfl)
              refine step_do ho' (wanted_free rfl) ?_
              unfold Oper.wp
              go_simp
              exact hK _ _ (.inr rfl) hF.j
            · have ho' := ho
              obtain rfl := Option.some.inj ho
              have f72 : ac.tmps.getD 72 undef = .bool true := valv hF hd 0 rfl rfl (by kernel_rfl)
              refine step_do ho' (wanted_free rfl) ?_
              unfold Oper.wp
              go_simp
              exact hK _ _ (.inr rfl) hF.j
            · have ho' := ho
              obtain rfl := Option.some.inj ho
              have f8 : ac.tmps.getD 8 undef = .pointer (some ⟨bZ, 0, none⟩) := slotv hF 2 hLi 8 (by kernel_rfl)
              have fg : ac.tmps.getD 73 undef = .bool true := valv hF hd 1 rfl rfl (by kernel_rfl)
              refine step_do ho' (wanted_so (g := 1) rfl rfl rfl fg) ?_
              exact wp_load_own 22 (.tmp 8) rfl bZ f8 (B32 (bdig y)) _ 22 (hF.j.at bZ (B32 (bdig y)) 22 (by simp)) Tryd.underlying22 rfl (B32_info _) (hK _ _ (.inr rfl) hF.j)
            · have ho' := ho
              obtain rfl := Option.some.inj ho
              have f9 : ac.tmps.getD 9 undef = .pointer (some ⟨bM, 0, none⟩) := slotv hF 3 hLi 9 (by kernel_rfl)
              have fg : ac.tmps.getD 73 undef = .bool true := valv hF hd 1 rfl rfl (by kernel_rfl)
              refine step_do ho' (wanted_so (g := 1) rfl rfl rfl fg) ?_
              exact wp_load_own 22 (.tmp 9) rfl bM f9 (B32 (bdig m)) _ 22 (hF.j.at bM (B32 (bdig m)) 22 (by simp)) Tryd.underlying22 rfl (B32_info _) (hK _ _ (.inr rfl) hF.j)
            · have ho' := ho
              obtain rfl := Option.some.inj ho
              have f74 : ac.tmps.getD 74 undef = .agg (B32 (bdig y)) := valv hF hd 2 rfl rfl (by kernel_rfl)
              have f75 : ac.tmps.getD 75 undef = .agg (B32 (bdig m)) := valv hF hd 3 rfl rfl (by kernel_rfl)
              have fg : ac.tmps.getD 73 undef = .bool true := valv hF hd 1 rfl rfl (by kernel_rfl)
              refine step_do ho' (wanted_so (g := 1) rfl rfl rfl fg) ?_
              unfold Oper.wp
              go_simp
              exact hK _ _ (.inr rfl) hF.j
            · have ho' := ho
              obtain rfl := Option.some.inj ho
              have f76 : ac.tmps.getD 76 undef = .bool false := valv hF hd 4 rfl rfl (by kernel_rfl)
              have fg : ac.tmps.getD 73 undef = .bool true := valv hF hd 1 rfl rfl (by kernel_rfl)
              refine step_do ho' (wanted_so (g := 1) rfl rfl rfl fg) ?_
              unfold Oper.wp
              go_simp
              exact hK _ _ (.inr rfl) hF.j
            · have ho' := ho
              obtain rfl := Option.some.inj ho
              have f8 : ac.tmps.getD 8 undef = .pointer (some ⟨bZ, 0, none⟩) := slotv hF 6 hLi 8 (by kernel_rfl)
              have fg : ac.tmps.getD 77 undef = .bool false := valv hF hd 5 rfl rfl (by kernel_rfl)
              refine step_do ho' (wanted_so (g := 5) rfl rfl rfl fg) ?_
              exact wp_load_own 22 (.tmp 8) rfl bZ f8 (B32 (bdig y)) _ 22 (hF.j.at bZ (B32 (bdig y)) 22 (by simp)) Tryd.underlying22 rfl (B32_info _) (hK _ _ (.inr rfl) hF.j)
            · have ho' := ho
              obtain rfl := Option.some.inj ho
              have fg : ac.tmps.getD 77 undef = .bool false := valv hF hd 5 rfl rfl (by kernel_rfl)
              refine step_do ho' (wanted_so (g := 5) rfl rfl rfl fg) ?_
              unfold Oper.wp
              go_simp
              refine (num_any 0 (by decide) _).mono ?_
              rintro e w' ⟨rfl, hB⟩
              exact hK _ _ (.inr rfl) (hF.j.below hB)
            · have ho' := ho
              obtain rfl := Option.some.inj ho
              have f9 : ac.tmps.getD 9 undef = .pointer (some ⟨bM, 0, none⟩) := slotv hF 8 hLi 9 (by kernel_rfl)
              have fg : ac.tmps.getD 77 undef = .bool false := valv hF hd 5 rfl rfl (by kernel_rfl)
              refine step_do ho' (wanted_so (g := 5) rfl rfl rfl fg) ?_
              exact wp_load_own 22 (.tmp 9) rfl bM f9 (B32 (bdig m)) _ 22 (hF.j.at bM (B32 (bdig m)) 22 (by simp)) Tryd.underlying22 rfl (B32_info _) (hK _ _ (.inr rfl) hF.j)
            · have ho' := ho
              obtain rfl := Option.some.inj ho
              have f79 : ac.tmps.getD 79 undef = .agg (B32 (bdig 0)) := valv hF hd 7 rfl rfl (by kernel_rfl)
              have f80 : ac.tmps.getD 80 undef = .agg (B32 (bdig m)) := valv hF hd 8 rfl rfl (by kernel_rfl)
              have fg : ac.tmps.getD 77 undef = .bool false := valv hF hd 5 rfl rfl (by kernel_rfl)
              refine step_do ho' (wanted_so (g := 5) rfl rfl rfl fg) ?_
              unfold Oper.wp
              go_simp
              refine (F.subA (by decide) hm Hsub.out _ (F.keep _ _ hT hF.j.2)).mono ?_
              rintro e w' ⟨rfl, hB⟩
              exact hK _ _ (.inr rfl) (hF.j.below hB)
            · have ho' := ho
              obtain rfl := Option.some.inj ho
              have f78 : ac.tmps.getD 78 undef = .agg (B32 (bdig y)) := valv hF hd 6 rfl rfl (by kernel_rfl)
              have f81 : ac.tmps.getD 81 undef = .agg (B32 (bdig y)) := valv hF hd 9 rfl rfl (by kernel_rfl)
              have fg : ac.tmps.getD 77 undef = .bool false := valv hF hd 5 rfl rfl (by kernel_rfl)
              refine step_do ho' (wanted_so (g := 5) rfl rfl rfl fg) ?_
              unfold Oper.wp
              go_simp
              exact hK _ _ (.inr rfl) hF.j
            · have ho' := ho
              obtain rfl := Option.some.inj ho
              have f77 : ac.tmps.getD 77 undef = .bool false := valv hF hd 5 rfl rfl (by kernel_rfl)
              have f82 : ac.tmps.getD 82 undef = .bool true := valv hF hd 10 rfl rfl (by kernel_rfl)
              have fg : ac.tmps.getD 73 undef = .bool true := valv hF hd 1 rfl rfl (by kernel_rfl)
              refine step_do ho' (wanted_so (g := 1) rfl rfl rfl fg) ?_
              unfold Oper.wp
              go_simp
              exact hK _ _ (.inr rfl) hF.j
            · have ho' := ho
              obtain rfl := Option.some.inj ho
              have f73 : ac.tmps.getD 73 undef = .bool true := valv hF hd 1 rfl rfl (by kernel_rfl)
              have f83 : ac.tmps.getD 83 undef = .bool true := valv hF hd 11 rfl rfl (by kernel_rfl)
              refine step_do ho' (wanted_free rfl) ?_
              unfold Oper.wp
              go_simp
              exact hK _ _ (.inr rfl) hF.j
            · have ho' := ho
              obtain rfl := Option.some.inj ho
              have f84 : ac.tmps.getD 84 undef = .bool true := valv hF hd 12 rfl rfl (by kernel_rfl)
              refine step_do ho' (wanted_free rfl) ?_
              unfold Oper.wp
              go_simp
              exact hK _ _ (.inr rfl) hF.j
            · have ho' := ho
              obtain rfl := Option.some.inj ho
              have fg : ac.tmps.getD 85 undef = .bool true := valv hF hd 13 rfl rfl (by kernel_rfl)
              refine step_do ho' (wanted_so (g := 13) rfl rfl rfl fg) ?_
              unfold Oper.wp
              go_simp
              refine (wakes_any F _ (F.keep _ _ hT hF.j.2)).mono ?_
              rintro e w' ⟨rfl, hB⟩
              exact hK _ _ (.inr rfl) (hF.j.below hB)
            · have ho' := ho
              obtain rfl := Option.some.inj ho
              have f85 : ac.tmps.getD 85 undef = .bool true := valv hF hd 13 rfl rfl (by kernel_rfl)
              have f86 : ac.tmps.getD 86 undef = .bool true := valv hF hd 14 rfl rfl (by kernel_rfl)
              refine step_do ho' (wanted_free rfl) ?_
              unfold Oper.wp
              go_simp
              exact hK _ _ (.inr rfl) hF.j
            · have ho' := ho
              obtain rfl := Option.some.inj ho
              have f87 : ac.tmps.getD 87 undef = .bool true := valv hF hd 15 rfl rfl (by kernel_rfl)
              refine step_do ho' (wanted_free rfl) ?_
              unfold Oper.wp
              go_simp
              exact hK _ _ (.inr rfl) hF.j
            · cases ho
          · intro L w12 hL hG
            simp only [putAll, val10f, Act.put, List.setIfInBounds_toArray, List.set_cons_succ, List.set_cons_zero]
            clear hL
            go_wp2_with fail
            go_ret
            exact ⟨rfl, hG.2⟩
  · have Hp := show Hid _ from hp
    clear hp
    go_upto_region 2 with (refine wpList_store_new (by rfl) 22 (.tmp 3) (.tmp 13) (by rfl) _ (B32 (bdig 0)) (by rfl) (by rfl) (B32_info _) (B32_sizes _ _) (B32_one _) (by rfl) ?_)
    have hK := (hK.below b1).alloc (B32 (bdig 0)) 22
    generalize w1.alloc (.cells (B32 (bdig 0)) 22) = w2 at *
    generalize w1.heap.size = bX at *
    go_wp2_with (refine wpList_load_own (by rfl) 22 (.tmp 1) (by rfl) bA (by rfl) (B32 (bdig a)) _ hK.h2 Tryd.underlying22 (by rfl) (B32_info _) ?_)
    refine (of_any a ha w2).mono ?_
    rintro e w3 ⟨rfl, b3⟩
    have hK := hK.below b3
    go_wp2_with fail
    refine (root_any a ha w3).mono ?_
    rintro e w4 ⟨rfl, b4⟩
    rw [Hp.out]
    have hK := hK.below b4
    go_upto_region 3 with (refine wpList_store_new (by rfl) 25 (.tmp 5) (.tmp 19) (by rfl) _ (numA 0) (by rfl) (by rfl) (numA_info _) (lit4_size _ _ _ _ _) (numA_one _) (by rfl) ?_)
    have hK := hK.alloc (numA 0) 25
    generalize w4.alloc (.cells (numA 0) 25) = w4b at *
    generalize w4.heap.size = bY at *
    refine wp_region_vals 88 (by kernel_rfl) (by kernel_rfl) (by rfl) (val3f 0) (fun _ => Kp [(bY, numA 0, 25), (bX, B32 (bdig 0), 22), (bA, B32 (bdig a), 22)] w) hK.drew ?_ ?_
    · intro L ac wc i o hF hLi ho hd K hK
      rcases i with _ | _ | _ | _ | _ | _ | _ | _ | _ | _ | _ | _ | _ | _ | _ | _ | _ | _ | _ | _ | _ | i
      · have ho' := ho
        obtain rfl := Option.some.inj ho
        have f4 : ac.tmps.getD 4 undef = .bool false := slotv hF 0 hLi 4 (by kernel_rfl)
        refine step_do ho' (wanted_free rfl) ?_
        unfold Oper.wp
        go_simp
        exact hK _ _ (.inr rfl) hF.j
      · have ho' := ho
        obtain rfl := Option.some.inj ho
        have f6 : ac.tmps.getD 6 undef = .bool false := slotv hF 1 hLi 6 (by kernel_rfl)
        refine step_do ho' (wanted_free rfl) ?_
        unfold Oper.wp
        go_simp
        exact hK _ _ (.inr rfl) hF.j
      · have ho' := ho
        obtain rfl := Option.some.inj ho
        have f21 : ac.tmps.getD 21 undef = .bool false := valv hF hd 0 rfl rfl (by kernel_rfl)
        have f22 : ac.tmps.getD 22 undef = .bool false := valv hF hd 1 rfl rfl (by kernel_rfl)
        refine step_do ho' (wanted_free rfl) ?_
        unfold Oper.wp
        go_simp
        exact hK _ _ (.inr rfl) hF.j
      · have ho' := ho
        obtain rfl := Option.some.inj ho
        have f23 : ac.tmps.getD 23 undef = .bool false := valv hF hd 2 rfl rfl (by kernel_rfl)
        refine step_do ho' (wanted_free rfl) ?_
        unfold Oper.wp
        go_simp
        exact hK _ _ (.inr rfl) hF.j
      · have ho' := ho
        obtain rfl := Option.some.inj ho
        have f4 : ac.tmps.getD 4 undef = .bool false := slotv hF 4 hLi 4 (by kernel_rfl)
        have fg : ac.tmps.getD 24 undef = .bool false := valv hF hd 3 rfl rfl (by kernel_rfl)
        refine step_do ho' (wanted_so (g := 3) rfl rfl rfl fg) ?_
        unfold Oper.wp
        go_simp
        exact hK _ _ (.inr rfl) hF.j
      · have ho' := ho
        obtain rfl := Option.some.inj ho
        have f25 : ac.tmps.getD 25 undef = .bool false := valv hF hd 4 rfl rfl (by kernel_rfl)
        have fg : ac.tmps.getD 24 undef = .bool false := valv hF hd 3 rfl rfl (by kernel_rfl)
        refine step_do ho' (wanted_so (g := 3) rfl rfl rfl fg) ?_
        unfold Oper.wp
        go_simp
        exact hK _ _ (.inr rfl) hF.j
      · have ho' := ho
        obtain rfl := Option.some.inj ho
        have fg : ac.tmps.getD 26 undef = .bool false := valv hF hd 5 rfl rfl (by kernel_rfl)
        refine step_pass ho' (wanted_not (g := 5) rfl rfl rfl fg (by decide)) (hK _ _ (.inr rfl) hF.j)
      · have ho' := ho
        obtain rfl := Option.some.inj ho
        have fg : ac.tmps.getD 26 undef = .bool false := valv hF hd 5 rfl rfl (by kernel_rfl)
        refine step_pass ho' (wanted_not (g := 5) rfl rfl rfl fg (by decide)) (hK _ _ (.inr rfl) hF.j)
      · have ho' := ho
        obtain rfl := Option.some.inj ho
        have fg : ac.tmps.getD 26 undef = .bool false := valv hF hd 5 rfl rfl (by kernel_rfl)
        refine step_pass ho' (wanted_not (g := 5) rfl rfl rfl fg (by decide)) (hK _ _ (.inr rfl) hF.j)
      · have ho' := ho
        obtain rfl := Option.some.inj ho
        have fg : ac.tmps.getD 26 undef = .bool false := valv hF hd 5 rfl rfl (by kernel_rfl)
        refine step_pass ho' (wanted_not (g := 5) rfl rfl rfl fg (by decide)) (hK _ _ (.inr rfl) hF.j)
      · have ho' := ho
        obtain rfl := Option.some.inj ho
        have f26 : ac.tmps.getD 26 undef = .bool false := valv hF hd 5 rfl rfl (by kernel_rfl)
        have fg : ac.tmps.getD 24 undef = .bool false := valv hF hd 3 rfl rfl (by kernel_rfl)
        refine step_do ho' (wanted_so (g := 3) rfl rfl rfl fg) ?_
        unfold Oper.wp
        go_simp
        exact hK _ _ (.inr rfl) hF.j
      · have ho' := ho
        obtain rfl := Option.some.inj ho
        have f24 : ac.tmps.getD 24 undef = .bool false := valv hF hd 3 rfl rfl (by kernel_rfl)
        have f31 : ac.tmps.getD 31 undef = .bool false := valv hF hd 10 rfl rfl (by kernel_rfl)
        refine step_do ho' (wanted_free rfl) ?_
        unfold Oper.wp
        go_simp
        exact hK _ _ (.inr rfl) hF.j
      · have ho' := ho
        obtain rfl := Option.some.inj ho
        have f32 : ac.tmps.getD 32 undef = .bool false := valv hF hd 11 rfl rfl (by kernel_rfl)
        refine step_do ho' (wanted_free rfl) ?_
        unfold Oper.wp
        go_simp
        exact hK _ _ (.inr rfl) hF.j
      · have ho' := ho
        obtain rfl := Option.some.inj ho
        have f4 : ac.tmps.getD 4 undef = .bool false := slotv hF 13 hLi 4 (by kernel_rfl)
        have fg : ac.tmps.getD 33 undef = .bool false := valv hF hd 12 rfl rfl (by kernel_rfl)
        refine step_do ho' (wanted_so (g := 12) rfl rfl rfl fg) ?_
        unfold Oper.wp
        go_simp
        exact hK _ _ (.inr rfl) hF.j
      · have ho' := ho
        obtain rfl := Option.some.inj ho
        have f34 : ac.tmps.getD 34 undef = .bool false := valv hF hd 13 rfl rfl (by kernel_rfl)
        have fg : ac.tmps.getD 33 undef = .bool false := valv hF hd 12 rfl rfl (by kernel_rfl)
        refine step_do ho' (wanted_so (g := 12) rfl rfl rfl fg) ?_
        unfold Oper.wp
        go_simp
        exact hK _ _ (.inr rfl) hF.j
      · have ho' := ho
        obtain rfl := Option.some.inj ho
        have f35 : ac.tmps.getD 35 undef = .bool true := valv hF hd 14 rfl rfl (by kernel_rfl)
        have fg : ac.tmps.getD 33 undef = .bool false := valv hF hd 12 rfl rfl (by kernel_rfl)
        refine step_do ho' (wanted_so (g := 12) rfl rfl rfl fg) ?_
        unfold Oper.wp
        go_simp
        exact hK _ _ (.inr rfl) hF.j
      · have ho' := ho
        obtain rfl := Option.some.inj ho
        have f3 : ac.tmps.getD 3 undef = .pointer (some ⟨bX, 0, none⟩) := slotv hF 16 hLi 3 (by kernel_rfl)
        have fg : ac.tmps.getD 36 undef = .bool true := valv hF hd 15 rfl rfl (by kernel_rfl)
        refine step_do ho' (wanted_so (g := 15) rfl rfl rfl fg) ?_
        exact wp_load_own 22 (.tmp 3) rfl bX f3 (B32 (bdig 0)) _ 22 (hF.j.at bX (B32 (bdig 0)) 22 (by simp)) Tryd.underlying22 rfl (B32_info _) (hK _ _ (.inr rfl) hF.j)
      · have ho' := ho
        obtain rfl := Option.some.inj ho
        have fg : ac.tmps.getD 36 undef = .bool true := valv hF hd 15 rfl rfl (by kernel_rfl)
        refine step_do ho' (wanted_so (g := 15) rfl rfl rfl fg) ?_
        unfold Oper.wp
        go_simp
        refine (num_any 0 (by decide) _).mono ?_
        rintro e w' ⟨rfl, hB⟩
        exact hK _ _ (.inr rfl) (hF.j.below hB)
      · have ho' := ho
        obtain rfl := Option.some.inj ho
        have f37 : ac.tmps.getD 37 undef = .agg (B32 (bdig 0)) := valv hF hd 16 rfl rfl (by kernel_rfl)
        have f38 : ac.tmps.getD 38 undef = .agg (B32 (bdig 0)) := valv hF hd 17 rfl rfl (by kernel_rfl)
        have fg : ac.tmps.getD 36 undef = .bool true := valv hF hd 15 rfl rfl (by kernel_rfl)
        refine step_do ho' (wanted_so (g := 15) rfl rfl rfl fg) ?_
        unfold Oper.wp
        go_simp
        exact hK _ _ (.inr rfl) hF.j
      · have ho' := ho
        obtain rfl := Option.some.inj ho
        have f36 : ac.tmps.getD 36 undef = .bool true := valv hF hd 15 rfl rfl (by kernel_rfl)
        have f39 : ac.tmps.getD 39 undef = .bool false := valv hF hd 18 rfl rfl (by kernel_rfl)
        have fg : ac.tmps.getD 33 undef = .bool false := valv hF hd 12 rfl rfl (by kernel_rfl)
        refine step_do ho' (wanted_so (g := 12) rfl rfl rfl fg) ?_
        unfold Oper.wp
        go_simp
        exact hK _ _ (.inr rfl) hF.j
      · have ho' := ho
        obtain rfl := Option.some.inj ho
        have f33 : ac.tmps.getD 33 undef = .bool false := valv hF hd 12 rfl rfl (by kernel_rfl)
        have f40 : ac.tmps.getD 40 undef = .bool false := valv hF hd 19 rfl rfl (by kernel_rfl)
        refine step_do ho' (wanted_free rfl) ?_
        unfold Oper.wp
        go_simp
        exact hK _ _ (.inr rfl) hF.j
      · cases ho
    · intro L wr hL hK3
      simp only [putAll, val3f, Act.put, List.setIfInBounds_toArray, List.set_cons_succ, List.set_cons_zero]
      clear hL
      clear hK
      go_upto_region 5 with fail
      refine wp_region_vals 88 (by kernel_rfl) (by kernel_rfl) (by rfl) (val5f 0) (fun _ => Kp [(bY, numA 0, 25), (bX, B32 (bdig 0), 22), (bA, B32 (bdig a), 22)] w) hK3.drew ?_ ?_
      · intro L ac wc i o hF hLi ho hd K hK
        rcases i with _ | _ | _ | _ | _ | _ | _ | _ | _ | _ | _ | _ | _ | _ | _ | _ | _ | _ | _ | _ | i
        · have ho' := ho
          obtain rfl := Option.some.inj ho
          have f4 : ac.tmps.getD 4 undef = .bool false := slotv hF 0 hLi 4 (by kernel_rfl)
          refine step_do ho' (wanted_free rfl) ?_
          unfold Oper.wp
          go_simp
          exact hK _ _ (.inr rfl) hF.j
        · have ho' := ho
          obtain rfl := Option.some.inj ho
          have f42 : ac.tmps.getD 42 undef = .bool false := valv hF hd 0 rfl rfl (by kernel_rfl)
          refine step_do ho' (wanted_free rfl) ?_
          unfold Oper.wp
          go_simp
          exact hK _ _ (.inr rfl) hF.j
        · have ho' := ho
          obtain rfl := Option.some.inj ho
          have fg : ac.tmps.getD 43 undef = .bool false := valv hF hd 1 rfl rfl (by kernel_rfl)
          refine step_pass ho' (wanted_not (g := 1) rfl rfl rfl fg (by decide)) (hK _ _ (.inr rfl) hF.j)
        · have ho' := ho
          obtain rfl := Option.some.inj ho
          have fg : ac.tmps.getD 43 undef = .bool false := valv hF hd 1 rfl rfl (by kernel_rfl)
          refine step_pass ho' (wanted_not (g := 1) rfl rfl rfl fg (by decide)) (hK _ _ (.inr rfl) hF.j)
        · have ho' := ho
          obtain rfl := Option.some.inj ho
          have fg : ac.tmps.getD 43 undef = .bool false := valv hF hd 1 rfl rfl (by kernel_rfl)
          refine step_pass ho' (wanted_not (g := 1) rfl rfl rfl fg (by decide)) (hK _ _ (.inr rfl) hF.j)
        · have ho' := ho
          obtain rfl := Option.some.inj ho
          have fg : ac.tmps.getD 43 undef = .bool false := valv hF hd 1 rfl rfl (by kernel_rfl)
          refine step_pass ho' (wanted_not (g := 1) rfl rfl rfl fg (by decide)) (hK _ _ (.inr rfl) hF.j)
        · have ho' := ho
          obtain rfl := Option.some.inj ho
          have fg : ac.tmps.getD 43 undef = .bool false := valv hF hd 1 rfl rfl (by kernel_rfl)
          refine step_pass ho' (wanted_not (g := 1) rfl rfl rfl fg (by decide)) (hK _ _ (.inr rfl) hF.j)
        · have ho' := ho
          obtain rfl := Option.some.inj ho
          have fg : ac.tmps.getD 43 undef = .bool false := valv hF hd 1 rfl rfl (by kernel_rfl)
          refine step_pass ho' (wanted_not (g := 1) rfl rfl rfl fg (by decide)) (hK _ _ (.inr rfl) hF.j)
        · have ho' := ho
          obtain rfl := Option.some.inj ho
          have fg : ac.tmps.getD 43 undef = .bool false := valv hF hd 1 rfl rfl (by kernel_rfl)
          refine step_pass ho' (wanted_not (g := 1) rfl rfl rfl fg (by decide)) (hK _ _ (.inr rfl) hF.j)
        · have ho' := ho
          obtain rfl := Option.some.inj ho
          have fg : ac.tmps.getD 50 undef = undef := valv hF hd 8 rfl rfl (by kernel_rfl)
          refine step_pass ho' (wanted_undef (g := 8) rfl rfl rfl fg) (hK _ _ (.inr rfl) hF.j)
        · have ho' := ho
          obtain rfl := Option.some.inj ho
          have fg : ac.tmps.getD 50 undef = undef := valv hF hd 8 rfl rfl (by kernel_rfl)
          refine step_pass ho' (wanted_undef (g := 8) rfl rfl rfl fg) (hK _ _ (.inr rfl) hF.j)
        · have ho' := ho
          obtain rfl := Option.some.inj ho
          have fg : ac.tmps.getD 50 undef = undef := valv hF hd 8 rfl rfl (by kernel_rfl)
          refine step_pass ho' (wanted_undef (g := 8) rfl rfl rfl fg) (hK _ _ (.inr rfl) hF.j)
        · have ho' := ho
          obtain rfl := Option.some.inj ho
          have fg : ac.tmps.getD 50 undef = undef := valv hF hd 8 rfl rfl (by kernel_rfl)
          refine step_pass ho' (wanted_undef (g := 8) rfl rfl rfl fg) (hK _ _ (.inr rfl) hF.j)
        · have ho' := ho
          obtain rfl := Option.some.inj ho
          have fg : ac.tmps.getD 43 undef = .bool false := valv hF hd 1 rfl rfl (by kernel_rfl)
          refine step_pass ho' (wanted_not (g := 1) rfl rfl rfl fg (by decide)) (hK _ _ (.inr rfl) hF.j)
        · have ho' := ho
          obtain rfl := Option.some.inj ho
          have fg : ac.tmps.getD 43 undef = .bool false := valv hF hd 1 rfl rfl (by kernel_rfl)
          refine step_pass ho' (wanted_not (g := 1) rfl rfl rfl fg (by decide)) (hK _ _ (.inr rfl) hF.j)
        · have ho' := ho
          obtain rfl := Option.some.inj ho
          have fg : ac.tmps.getD 56 undef = undef := valv hF hd 14 rfl rfl (by kernel_rfl)
          refine step_pass ho' (wanted_undef (g := 14) rfl rfl rfl fg) (hK _ _ (.inr rfl) hF.j)
        · have ho' := ho
          obtain rfl := Option.some.inj ho
          have fg : ac.tmps.getD 56 undef = undef := valv hF hd 14 rfl rfl (by kernel_rfl)
          refine step_pass ho' (wanted_undef (g := 14) rfl rfl rfl fg) (hK _ _ (.inr rfl) hF.j)
        · have ho' := ho
          obtain rfl := Option.some.inj ho
          have fg : ac.tmps.getD 56 undef = undef := valv hF hd 14 rfl rfl (by kernel_rfl)
          refine step_pass ho' (wanted_undef (g := 14) rfl rfl rfl fg) (hK _ _ (.inr rfl) hF.j)
        · have ho' := ho
          obtain rfl := Option.some.inj ho
          have fg : ac.tmps.getD 43 undef = .bool false := valv hF hd 1 rfl rfl (by kernel_rfl)
          refine step_pass ho' (wanted_not (g := 1) rfl rfl rfl fg (by decide)) (hK _ _ (.inr rfl) hF.j)
        · have ho' := ho
          obtain rfl := Option.some.inj ho
          have f43 : ac.tmps.getD 43 undef = .bool false := valv hF hd 1 rfl rfl (by kernel_rfl)
          refine step_do ho' (wanted_free rfl) ?_
          unfold Oper.wp
          go_simp
          exact hK _ _ (.inr rfl) hF.j
        · cases ho
      · intro L w5 hL hK5
        simp only [putAll, val5f, Act.put, List.setIfInBounds_toArray, List.set_cons_succ, List.set_cons_zero]
        clear hL
        clear hK3
        go_upto_region 7 with fail
        have hA : Kp [(bA, B32 (bdig a), 22)] w w5 := hK5.sub (by simp)
        clear hK5
        go_wp2_with (refine wpList_load_own (by rfl) 22 (.tmp 1) (by rfl) bA (by rfl) (B32 (bdig a)) _ hA.h1 Tryd.underlying22 (by rfl) (B32_info _) ?_)
        refine (F.mulA ha ha Hq.out w5 (F.keep _ _ hT hA.2)).mono ?_
        rintro e w6 ⟨rfl, b6⟩
        have hA := hA.below b6
        go_upto_region 8 with (refine wpList_store_new (by rfl) 22 (.tmp 7) (.tmp 64) (by rfl) _ (B32 (bdig q)) (by rfl) (by rfl) (B32_info _) (B32_sizes _ _) (B32_one _) (by rfl) ?_)
        have hA := hA.alloc (B32 (bdig q)) 22
        generalize w6.alloc (.cells (B32 (bdig q)) 22) = w7 at *
        generalize w6.heap.size = bQ at *
        go_wp2_with (refine wpList_load_own (by rfl) 22 (.tmp 7) (by rfl) bQ (by rfl) (B32 (bdig q)) _ hA.h1 Tryd.underlying22 (by rfl) (B32_info _) ?_)
        refine (hR q hq w7 (F.keep _ _ hT hA.2)).mono ?_
        rintro e w8 ⟨rfl, b8⟩
        rw [Hy.out]
        have hA := hA.below b8
        go_upto_region 9 with (refine wpList_store_new (by rfl) 22 (.tmp 8) (.tmp 68) (by rfl) _ (B32 (bdig y)) (by rfl) (by rfl) (B32_info _) (B32_sizes _ _) (B32_one _) (by rfl) ?_)
        have hA := hA.alloc (B32 (bdig y)) 22
        generalize w8.alloc (.cells (B32 (bdig y)) 22) = w9 at *
        generalize w8.heap.size = bZ at *
        go_wp2_with (refine wpList_load_own (by rfl) 22 (.tmp 1) (by rfl) bA (by rfl) (B32 (bdig a)) _ (hA.at bA (B32 (bdig a)) 22 (by simp)) Tryd.underlying22 (by rfl) (B32_info _) ?_)
        refine (F.modA ha Hm.out w9 (F.keep _ _ hT hA.2)).mono ?_
        rintro e w10 ⟨rfl, b10⟩
        have hA := hA.below b10
        go_upto_region 10 with (refine wpList_store_new (by rfl) 22 (.tmp 9) (.tmp 71) (by rfl) _ (B32 (bdig m)) (by rfl) (by rfl) (B32_info _) (B32_sizes _ _) (B32_one _) (by rfl) ?_)
        have hA := hA.alloc (B32 (bdig m)) 22
        generalize w10.alloc (.cells (B32 (bdig m)) 22) = w11 at *
        generalize w10.heap.size = bM at *
        have hE : Kp [(bM, B32 (bdig m), 22), (bZ, B32 (bdig y), 22)] w w11 := hA.sub (by simp)
        clear hA
        by_cases hym : y = m
        · have Hym := show Hid _ from hym
          clear hym
          rw [Hym.out] at hE
          refine wp_region_vals 88 (by kernel_rfl) (by kernel_rfl) (by rfl) (val10t m) (fun _ => Kp [(bM, B32 (bdig m), 22), (bZ, B32 (bdig m), 22)] w) hE.drew ?_ ?_
          · intro L ac wc i o hF hLi ho hd K hK
            rcases i with _ | _ | _ | _ | _ | _ | _ | _ | _ | _ | _ | _ | _ | _ | _ | _ | _ | i
            · have ho' := ho
              obtain rfl := Option.some.inj ho
              have f4 : ac.tmps.getD 4 undef = .bool true := slotv hF 0 hLi 4 (by kernel_rfl)
              refine step_do ho' (wanted_free rfl) ?_
              unfold Oper.wp
              go_simp
              exact hK _ _ (.inr rfl) hF.j
            · have ho' := ho
              obtain rfl := Option.some.inj ho
              have f72 : ac.tmps.getD 72 undef = .bool true := valv hF hd 0 rfl rfl (by kernel_rfl)
              refine step_do ho' (wanted_free rfl) ?_
              unfold Oper.wp
              go_simp
              exact hK _ _ (.inr rfl) hF.j
            · have ho' := ho
              obtain rfl := Option.some.inj ho
              have f8 : ac.tmps.getD 8 undef = .pointer (some ⟨bZ, 0, none⟩) := slotv hF 2 hLi 8 (by kernel_rfl)
              have fg : ac.tmps.getD 73 undef = .bool true := valv hF hd 1 rfl rfl (by kernel_rfl)
              refine step_do ho' (wanted_so (g := 1) rfl rfl rfl fg) ?_
              exact wp_load_own 22 (.tmp 8) rfl bZ f8 (B32 (bdig m)) _ 22 (hF.j.at bZ (B32 (bdig m)) 22 (by simp)) Tryd.underlying22 rfl (B32_info _) (hK _ _ (.inr rfl) hF.j)
            · have ho' := ho
              obtain rfl := Option.some.inj ho
              have f9 : ac.tmps.getD 9 undef = .pointer (some ⟨bM, 0, none⟩) := slotv hF 3 hLi 9 (by kernel_rfl)
              have fg : ac.tmps.getD 73 undef = .bool true := valv hF hd 1 rfl rfl (by kernel_rfl)
              refine step_do ho' (wanted_so (g := 1) rfl rfl rfl fg) ?_
              exact wp_load_own 22 (.tmp 9) rfl bM f9 (B32 (bdig m)) _ 22 (hF.j.at bM (B32 (bdig m)) 22 (by simp)) Tryd.underlying22 rfl (B32_info _) (hK _ _ (.inr rfl) hF.j)
            · have ho' := ho
              obtain rfl := Option.some.inj ho
              have f74 : ac.tmps.getD 74 undef = .agg (B32 (bdig m)) := valv hF hd 2 rfl rfl (by kernel_rfl)
              have f75 : ac.tmps.getD 75 undef = .agg (B32 (bdig m)) := valv hF hd 3 rfl rfl (by kernel_rfl)
              have fg : ac.tmps.getD 73 undef = .bool true := valv hF hd 1 rfl rfl (by kernel_rfl)
              refine step_do ho' (wanted_so (g := 1) rfl rfl rfl fg) ?_
              unfold Oper.wp
              go_simp
              exact hK _ _ (.inr rfl) hF.j
            · have ho' := ho
              obtain rfl := Option.some.inj ho
              have f76 : ac.tmps.getD 76 undef = .bool true := valv hF hd 4 rfl rfl (by kernel_rfl)
              have fg : ac.tmps.getD 73 undef = .bool true := valv hF hd 1 rfl rfl (by kernel_rfl)
              refine step_do ho' (wanted_so (g := 1) rfl rfl rfl fg) ?_
              unfold Oper.wp
              go_simp
              exact hK _ _ (.inr rfl) hF.j
            · have ho' := ho
              obtain rfl := Option.some.inj ho
              have fg : ac.tmps.getD 77 undef = .bool true := valv hF hd 5 rfl rfl (by kernel_rfl)
              refine step_pass ho' (wanted_not (g := 5) rfl rfl rfl fg (by decide)) (hK _ _ (.inr rfl) hF.j)
            · have ho' := ho
              obtain rfl := Option.some.inj ho
              have fg : ac.tmps.getD 77 undef = .bool true := valv hF hd 5 rfl rfl (by kernel_rfl)
              refine step_pass ho' (wanted_not (g := 5) rfl rfl rfl fg (by decide)) (hK _ _ (.inr rfl) hF.j)
            · have ho' := ho
              obtain rfl := Option.some.inj ho
              have fg : ac.tmps.getD 77 undef = .bool true := valv hF hd 5 rfl rfl (by kernel_rfl)
              refine step_pass ho' (wanted_not (g := 5) rfl rfl rfl fg (by decide)) (hK _ _ (.inr rfl) hF.j)
            · have ho' := ho
              obtain rfl := Option.some.inj ho
              have fg : ac.tmps.getD 77 undef = .bool true := valv hF hd 5 rfl rfl (by kernel_rfl)
              refine step_pass ho' (wanted_not (g := 5) rfl rfl rfl fg (by decide)) (hK _ _ (.inr rfl) hF.j)
            · have ho' := ho
              obtain rfl := Option.some.inj ho
              have fg : ac.tmps.getD 77 undef = .bool true := valv hF hd 5 rfl rfl (by kernel_rfl)
              refine step_pass ho' (wanted_not (g := 5) rfl rfl rfl fg (by decide)) (hK _ _ (.inr rfl) hF.j)
            · have ho' := ho
              obtain rfl := Option.some.inj ho
              have f77 : ac.tmps.getD 77 undef = .bool true := valv hF hd 5 rfl rfl (by kernel_rfl)
              have fg : ac.tmps.getD 73 undef = .bool true := valv hF hd 1 rfl rfl (by kernel_rfl)
              refine step_do ho' (wanted_so (g := 1) rfl rfl rfl fg) ?_
              unfold Oper.wp
              go_simp
              exact hK _ _ (.inr rfl) hF.j
            · have ho' := ho
              obtain rfl := Option.some.inj ho
              have f73 : ac.tmps.getD 73 undef = .bool true := valv hF hd 1 rfl rfl (by kernel_rfl)
              have f83 : ac.tmps.getD 83 undef = .bool true := valv hF hd 11 rfl rfl (by kernel_rfl)
              refine step_do ho' (wanted_free rfl) ?_
              unfold Oper.wp
              go_simp
              exact hK _ _ (.inr rfl) hF.j
            · have ho' := ho
              obtain rfl := Option.some.inj ho
              have f84 : ac.tmps.getD 84 undef = .bool true := valv hF hd 12 rfl rfl (by kernel_rfl)
              refine step_do ho' (wanted_free rfl) ?_
              unfold Oper.wp
              go_simp
              exact hK _ _ (.inr rfl) hF.j
            · have ho' := ho
              obtain rfl := Option.some.inj ho
              have fg : ac.tmps.getD 85 undef = .bool true := valv hF hd 13 rfl rfl (by kernel_rfl)
              refine step_do ho' (wanted_so (g := 13) rfl rfl rfl fg) ?_
              unfold Oper.wp
              go_simp
              refine (wakes_any F _ (F.keep _ _ hT hF.j.2)).mono ?_
              rintro e w' ⟨rfl, hB⟩
              exact hK _ _ (.inr rfl) (hF.j.below hB)
            · have ho' := ho
              obtain rfl := Option.some.inj ho
              have f85 : ac.tmps.getD 85 undef = .bool true := valv hF hd 13 rfl rfl (by kernel_rfl)
              have f86 : ac.tmps.getD 86 undef = .bool true := valv hF hd 14 rfl rfl (by kernel_rfl)
              refine step_do ho' (wanted_free rfl) ?_
              unfold Oper.wp
              go_simp
              exact hK _ _ (.inr rfl) hF.j
            · have ho' := ho
              obtain rfl := Option.some.inj ho
              have f87 : ac.tmps.getD 87 undef = .bool true := valv hF hd 15 rfl rfl (by kernel_rfl)
              refine step_do ho' (wanted_free rfl) ?_
              unfold Oper.wp
              go_simp
              exact hK _ _ (.inr rfl) hF.j
            · cases ho
          · intro L w12 hL hG
            simp only [putAll, val10t, Act.put, List.setIfInBounds_toArray, List.set_cons_succ, List.set_cons_zero]
            clear hL
            go_wp2_with fail
            go_ret
            exact ⟨rfl, hG.2⟩
        · have hne : ∀ w, (Op.equalIn 10000 22 (.agg (B32 (bdig y))) (.agg (B32 (bdig m)))).run Tryd.prog w = .ok false w := fun w => by rw [B32_eq y m hy hm w, decide_eq_false hym]
          have Hsub : Hid ((0 % pp + pp - m % pp) % pp = y) := by show _ = _; rw [Nat.zero_mod, Nat.zero_add, Nat.mod_eq_of_lt hmp.out]; exact ((Hor.out.resolve_left hym)).symm
          clear hym
          refine wp_region_vals 88 (by kernel_rfl) (by kernel_rfl) (by rfl) (val10f y m) (fun _ => Kp [(bM, B32 (bdig m), 22), (bZ, B32 (bdig y), 22)] w) hE.drew ?_ ?_
          · intro L ac wc i o hF hLi ho hd K hK
            rcases i with _ | _ | _ | _ | _ | _ | _ | _ | _ | _ | _ | _ | _ | _ | _ | _ | _ | i
            · have ho' := ho
              obtain rfl := Option.some.inj ho
              have f4 : ac.tmps.getD 4 undef = .bool true := slotv hF 0 hLi 4 (by kernel_rfl)
              refine step_do ho' (wanted_free rfl) ?_
              unfold Oper.wp
              go_simp
              exact hK _ _ (.inr rfl) hF.j
            · have ho' := ho
              obtain rfl := Option.some.inj ho
              have f72 : ac.tmps.getD 72 undef = .bool true := valv hF hd 0 rfl rfl (by kernel_rfl)
              refine step_do ho' (wanted_free rfl) ?_
              unfold Oper.wp
              go_simp
              exact hK _ _ (.inr rfl) hF.j
            · have ho' := ho
              obtain rfl := Option.some.inj ho
              have f8 : ac.tmps.getD 8 undef = .pointer (some ⟨bZ, 0, none⟩) := slotv hF 2 hLi 8 (by kernel_rfl)
              have fg : ac.tmps.getD 73 undef = .bool true := valv hF hd 1 rfl rfl (by kernel_rfl)
              refine step_do ho' (wanted_so (g := 1) rfl rfl rfl fg) ?_
              exact wp_load_own 22 (.tmp 8) rfl bZ f8 (B32 (bdig y)) _ 22 (hF.j.at bZ (B32 (bdig y)) 22 (by simp)) Tryd.underlying22 rfl (B32_info _) (hK _ _ (.inr rfl) hF.j)
            · have ho' := ho
              obtain rfl := Option.some.inj ho
              have f9 : ac.tmps.getD 9 undef = .pointer (some ⟨bM, 0, none⟩) := slotv hF 3 hLi 9 (by kernel_rfl)
              have fg : ac.tmps.getD 73 undef = .bool true := valv hF hd 1 rfl rfl (by kernel_rfl)
              refine step_do ho' (wanted_so (g := 1) rfl rfl rfl fg) ?_
              exact wp_load_own 22 (.tmp 9) rfl bM f9 (B32 (bdig m)) _ 22 (hF.j.at bM (B32 (bdig m)) 22 (by simp)) Tryd.underlying22 rfl (B32_info _) (hK _ _ (.inr rfl) hF.j)
            · have ho' := ho
              obtain rfl := Option.some.inj ho
              have f74 : ac.tmps.getD 74 undef = .agg (B32 (bdig y)) := valv hF hd 2 rfl rfl (by kernel_rfl)
              have f75 : ac.tmps.getD 75 undef = .agg (B32 (bdig m)) := valv hF hd 3 rfl rfl (by kernel_rfl)
              have fg : ac.tmps.getD 73 undef = .bool true := valv hF hd 1 rfl rfl (by kernel_rfl)
              refine step_do ho' (wanted_so (g := 1) rfl rfl rfl fg) ?_
              unfold Oper.wp
              go_simp
              exact hK _ _ (.inr rfl) hF.j
            · have ho' := ho
              obtain rfl := Option.some.inj ho
              have f76 : ac.tmps.getD 76 undef = .bool false := valv hF hd 4 rfl rfl (by kernel_rfl)
              have fg : ac.tmps.getD 73 undef = .bool true := valv hF hd 1 rfl rfl (by kernel_rfl)
              refine step_do ho' (wanted_so (g := 1) rfl rfl rfl fg) ?_
              unfold Oper.wp
              go_simp
              exact hK _ _ (.inr rfl) hF.j
            · have ho' := ho
              obtain rfl := Option.some.inj ho
              have f8 : ac.tmps.getD 8 undef = .pointer (some ⟨bZ, 0, none⟩) := slotv hF 6 hLi 8 (by kernel_rfl)
              have fg : ac.tmps.getD 77 undef = .bool false := valv hF hd 5 rfl rfl (by kernel_rfl)
              refine step_do ho' (wanted_so (g := 5) rfl rfl rfl fg) ?_
              exact wp_load_own 22 (.tmp 8) rfl bZ f8 (B32 (bdig y)) _ 22 (hF.j.at bZ (B32 (bdig y)) 22 (by simp)) Tryd.underlying22 rfl (B32_info _) (hK _ _ (.inr rfl) hF.j)
            · have ho' := ho
              obtain rfl := Option.some.inj ho
              have fg : ac.tmps.getD 77 undef = .bool false := valv hF hd 5 rfl rfl (by kernel_rfl)
              refine step_do ho' (wanted_so (g := 5) rfl rfl rfl fg) ?_
              unfold Oper.wp
              go_simp
              refine (num_any 0 (by decide) _).mono ?_
              rintro e w' ⟨rfl, hB⟩
              exact hK _ _ (.inr rfl) (hF.j.below hB)
            · have ho' := ho
              obtain rfl := Option.some.inj ho
              have f9 : ac.tmps.getD 9 undef = .pointer (some ⟨bM, 0, none⟩) := slotv hF 8 hLi 9 (by kernel_rfl)
              have fg : ac.tmps.getD 77 undef = .bool false := valv hF hd 5 rfl rfl (by kernel_rfl)
              refine step_do ho' (wanted_so (g := 5) rfl rfl rfl fg) ?_
              exact wp_load_own 22 (.tmp 9) rfl bM f9 (B32 (bdig m)) _ 22 (hF.j.at bM (B32 (bdig m)) 22 (by simp)) Tryd.underlying22 rfl (B32_info _) (hK _ _ (.inr rfl) hF.j)
            · have ho' := ho
              obtain rfl := Option.some.inj ho
              have f79 : ac.tmps.getD 79 undef = .agg (B32 (bdig 0)) := valv hF hd 7 rfl rfl (by kernel_rfl)
              have f80 : ac.tmps.getD 80 undef = .agg (B32 (bdig m)) := valv hF hd 8 rfl rfl (by kernel_rfl)
              have fg : ac.tmps.getD 77 undef = .bool false := valv hF hd 5 rfl rfl (by kernel_rfl)
              refine step_do ho' (wanted_so (g := 5) rfl rfl rfl fg) ?_
              unfold Oper.wp
              go_simp
              refine (F.subA (by decide) hm Hsub.out _ (F.keep _ _ hT hF.j.2)).mono ?_
              rintro e w' ⟨rfl, hB⟩
              exact hK _ _ (.inr rfl) (hF.j.below hB)
            · have ho' := ho
              obtain rfl := Option.some.inj ho
              have f78 : ac.tmps.getD 78 undef = .agg (B32 (bdig y)) := valv hF hd 6 rfl rfl (by kernel_rfl)
              have f81 : ac.tmps.getD 81 undef = .agg (B32 (bdig y)) := valv hF hd 9 rfl rfl (by kernel_rfl)
              have fg : ac.tmps.getD 77 undef = .bool false := valv hF hd 5 rfl rfl (by kernel_rfl)
              refine step_do ho' (wanted_so (g := 5) rfl rfl rfl fg) ?_
              unfold Oper.wp
              go_simp
              exact hK _ _ (.inr rfl) hF.j
            · have ho' := ho
              obtain rfl := Option.some.inj ho
              have f77 : ac.tmps.getD 77 undef = .bool false := valv hF hd 5 rfl rfl (by kernel_rfl)
              have f82 : ac.tmps.getD 82 undef = .bool true := valv hF hd 10 rfl rfl (by kernel_rfl)
              have fg : ac.tmps.getD 73 undef = .bool true := valv hF hd 1 rfl rfl (by kernel_rfl)
              refine step_do ho' (wanted_so (g := 1) rfl rfl rfl fg) ?_
              unfold Oper.wp
              go_simp
              exact hK _ _ (.inr rfl) hF.j
            · have ho' := ho
              obtain rfl := Option.some.inj ho
              have f73 : ac.tmps.getD 73 undef = .bool true := valv hF hd 1 rfl rfl (by kernel_rfl)
              have f83 : ac.tmps.getD 83 undef = .bool true := valv hF hd 11 rfl rfl (by kernel_rfl)
              refine step_do ho' (wanted_free rfl) ?_
              unfold Oper.wp
              go_simp
              exact hK _ _ (.inr rfl) hF.j
            · have ho' := ho
              obtain rfl := Option.some.inj ho
              have f84 : ac.tmps.getD 84 undef = .bool true := valv hF hd 12 rfl rfl (by kernel_rfl)
              refine step_do ho' (wanted_free rfl) ?_
              unfold Oper.wp
              go_simp
              exact hK _ _ (.inr rfl) hF.j
            · have ho' := ho
              obtain rfl := Option.some.inj ho
              have fg : ac.tmps.getD 85 undef = .bool true := valv hF hd 13 rfl rfl (by kernel_rfl)
              refine step_do ho' (wanted_so (g := 13) rfl rfl rfl fg) ?_
              unfold Oper.wp
              go_simp
              refine (wakes_any F _ (F.keep _ _ hT hF.j.2)).mono ?_
              rintro e w' ⟨rfl, hB⟩
              exact hK _ _ (.inr rfl) (hF.j.below hB)
            · have ho' := ho
              obtain rfl := Option.some.inj ho
              have f85 : ac.tmps.getD 85 undef = .bool true := valv hF hd 13 rfl rfl (by kernel_rfl)
              have f86 : ac.tmps.getD 86 undef = .bool true := valv hF hd 14 rfl rfl (by kernel_rfl)
              refine step_do ho' (wanted_free rfl) ?_
              unfold Oper.wp
              go_simp
              exact hK _ _ (.inr rfl) hF.j
            · have ho' := ho
              obtain rfl := Option.some.inj ho
              have f87 : ac.tmps.getD 87 undef = .bool true := valv hF hd 15 rfl rfl (by kernel_rfl)
              refine step_do ho' (wanted_free rfl) ?_
              unfold Oper.wp
              go_simp
              exact hK _ _ (.inr rfl) hF.j
            · cases ho
          · intro L w12 hL hG
            simp only [putAll, val10f, Act.put, List.setIfInBounds_toArray, List.set_cons_succ, List.set_cons_zero]
            clear hL
            go_wp2_with fail
            go_ret
            exact ⟨rfl, hG.2⟩

theorem root_law (F : Fld TP) (a : Nat) (ha : a < R256) (w : World) (hT : TP w) (hTT : TT w) : Calls Tryd.prog 5 #[.agg (B32 (bdig a))] w fun x w' => x = .returned (.bool true) ∧ Below w.heap.size w w' :=
  root_walk (T := fun w => TP w ∧ TT w) { keep := fun _ _ h hB => ⟨h.1.keep hB, h.2.keep hB⟩, check := fun a ha w h => F.check a ha w h.1, mod := fun a ha w h => F.mod a ha w h.1, add := fun a b ha hb w h => F.add a b ha hb w h.1, sub := fun a b ha hb w h => F.sub a b ha hb w h.1, mul := fun a b ha hb w h => F.mul a b ha hb w h.1 } (fun a ha w h => proot_any a ha w h.1 h.2) a ha w ⟨hT, hTT⟩
end Go.Proofs.YtaefjbklioljnaaDoor
