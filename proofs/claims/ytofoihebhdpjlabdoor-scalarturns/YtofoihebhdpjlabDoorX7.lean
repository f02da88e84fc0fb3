/- The walk of the law ScalarTurns, over the program's functions by their contracts. -/
import Derived.Test.YtofoihebhdpjlabDoorS3T
namespace Go.Proofs.YtofoihebhdpjlabDoor
open Go.RowKit
theorem less_cells : (#[.int .u64 6346243789798364140, .int .u64 1503914060200516822, .int .u64 0, .int .u64 1152921504606846976] : Array Value) = numA (LL - 1) := by rfl
theorem bytes_at {A : Array Value} {n : Nat} (h : A = numA n) (w : World) : Calls Tryd.prog 6 #[.agg A] w fun x w' => x = .returned (.agg (B32 (bdig n))) ∧ Below w.heap.size w w' := by
  rw [h]; exact bytesOf_any n w
theorem turn_sum {a l : Nat} (hl : LL = l + 1) : ((a * l + 0) % LL * 1 + a) % LL = 0 := by
  rw [Nat.mul_one, Nat.add_zero, Nat.mod_add_mod, show a * l + a = a * LL by rw [hl, Nat.mul_add, Nat.mul_one], Nat.mul_mod_left]
theorem turn_twice {a l : Nat} (hl : l * l % LL = 1) : ((a * l + 0) % LL * l + 0) % LL = a % LL := by
  rw [Nat.add_zero, Nat.add_zero, Nat.mod_mul_mod, Nat.mul_assoc, Nat.mul_mod, hl, Nat.mul_one, Nat.mod_mod]
def factTu (a l x : Nat) : Nat → Value → Prop
  | 0, v => v = .agg (B32 (bdig a))
  | 1, v => v = .agg (B32 (bdig l))
  | 2, v => v = .func (Fn.func 4) #[] #[]
  | 3, v => v = .agg (B32 (bdig 0))
  | 4, v => v = .agg (B32 (bdig x))
  | 5, v => ∃ g, v = .pointer (some ⟨g, 0, none⟩)
  | _, _ => True
def valTu (a l x m : Nat) : Nat → Value
  | 0 => .agg (B32 (bdig x))
  | 1 => .func (Fn.func 4) #[] #[]
  | 2 => .agg (B32 (bdig 1))
  | 3 => .agg (B32 (bdig a))
  | 4 => .agg (B32 (bdig 0))
  | 5 => .func (Fn.func 4) #[] #[]
  | 6 => .agg (B32 (bdig 0))
  | 9 => .agg (B32 (bdig x))
  | 10 => .agg (B32 (bdig l))
  | 11 => .func (Fn.func 4) #[] #[]
  | 12 => .agg (B32 (bdig 0))
  | 13 => .agg (B32 (bdig m))
  | 14 => .agg (B32 (bdig a))
  | 15 => .agg (B32 (bdig m))
  | 19 => .agg (B32 (bdig l))
  | _ => .bool true

set_option maxRecDepth 100000 in
set_option maxHeartbeats 16000000 in
theorem sturns_any {T : World → Prop} (F : SclT T) (a : Nat) (ha : a < R256) (w : World) (hT : T w) : Calls Tryd.prog 3 #[.agg (B32 (bdig a))] w fun x w' => x = .returned (.bool true) ∧ Below w.heap.size w w' := by
  have hz := (zero_of_info zeroB32).1
  have hzN := (zero_of_info zeroLit).1
  have h0 : 0 < R256 := by decide
  have h1 : 1 < R256 := by decide
  obtain ⟨l, Hl⟩ : ∃ l, Hid (LL - 1 = l) := ⟨_, rfl⟩
  have hl : l < R256 := by rw [← Hl.out]; decide
  have hlL : Hid (l < LL) := by show _ < _; rw [← Hl.out]; decide
  have Hl1 : Hid (LL = l + 1) := by show _ = _; rw [← Hl.out]; decide
  have Hll : Hid (l * l % LL = 1) := by show _ = _; rw [← Hl.out]; decide +kernel
  obtain ⟨x, Hx⟩ : ∃ x, Hid ((a * l + 0) % LL = x) := ⟨_, rfl⟩
  have hx : x < R256 := by rw [← Hx.out]; exact lt_of_modL
  obtain ⟨m, Hm⟩ : ∃ x, Hid (a % LL = x) := ⟨_, rfl⟩
  have hm : m < R256 := by rw [← Hm.out]; exact lt_of_modL
  have H0 : Hid ((x * 1 + a) % LL = 0) := by show _ = _; rw [← Hx.out]; exact turn_sum Hl1.out
  have Hm2 : Hid ((x * l + 0) % LL = m) := by show _ = _; rw [← Hx.out, ← Hm.out]; exact turn_twice Hll.out
  have same_m := B32_same m hm
  have same_0 := B32_same 0 (by decide)
  have Hlc := show Hid _ from less_cells.trans (congrArg numA Hl.out)
  clear Hl1 Hll
  go_enter Tryd.func3, Tryd.ntmps3
  go_upto_region 2 with fail
  have hK := (Kp.nil w).alloc (B32 (bdig a)) 22
  generalize w.alloc (.cells (B32 (bdig a)) 22) = W at *
  obtain ⟨bA, H1⟩ : ∃ bA, Hid (w.heap.size = bA) := ⟨_, rfl⟩
  rw [H1.out] at hK ⊢
  go_wp2_with fail
  refine (L_any W).mono ?_
  rintro e w1 ⟨rfl, b1⟩
  obtain ⟨A, HA⟩ : ∃ A, Hid (numA LL = A) := ⟨_, rfl⟩
  have hcells : Hid (A = _) := HA.out.symm.trans L_cells
  have hi : (Tryd.prog.info? 26).map (·.size) = some A.size := by rw [← HA.out]; exact numA_info LL
  have hone : A.all (·.oneCell') = true := by rw [← HA.out]; exact numA_one LL
  have hs : Hid (4 = A.size) := by show _ = _; rw [← HA.out]; exact (numA_size LL).symm
  rw [HA.out]
  have hK := hK.below b1
  go_upto_region 3 with (refine wpList_store_new (by rfl) 26 (.tmp 4) (.tmp 7) (by rfl) _ A (by rfl) (by rw [hcells.out]; rfl) hi hs.out hone (by rfl) ?_)
  clear hs hone hi
  have hK := hK.alloc A 26
  generalize w1.alloc (.cells A 26) = w2 at *
  generalize w1.heap.size = bP at *
  have oP := hK.at bP A 26 (by simp)
  have c0 := oP.cell (i := 0) (by rw [hcells.out]; rfl)
  have c1 := oP.cell (i := 1) (by rw [hcells.out]; rfl)
  have c2 := oP.cell (i := 2) (by rw [hcells.out]; rfl)
  have c3 := oP.cell (i := 3) (by rw [hcells.out]; rfl)
  go_wp2_with fail
  refine (bytes_at Hlc.out _).mono ?_
  rintro e w3 ⟨rfl, b3⟩
  clear oP c0 c1 c2 c3
  have hK := hK.below b3
  go_upto_region 4 with (refine wpList_store_new (by rfl) 22 (.tmp 5) (.tmp 18) (by rfl) _ (B32 (bdig l)) (by rfl) (by rfl) (B32_info _) (B32_sizes _ _) (B32_one _) (by rfl) ?_)
  have hK := hK.alloc (B32 (bdig l)) 22
  generalize w3.alloc (.cells (B32 (bdig l)) 22) = w4 at *
  generalize w3.heap.size = bL at *
  have hK : Kp [(bL, B32 (bdig l), 22), (bA, B32 (bdig a), 22)] w w4 := hK.sub (by simp)
  refine wp_region_told 49 (by kernel_rfl) (by kernel_rfl) (by rfl) (factTu a l x) (fun L vs => Mk [(bL, B32 (bdig l), 22), (bA, B32 (bdig a), 22)] w (B32 fun _ => 0) (B32 (bdig x)) 22 (L 5) (L 6) (vs 5)) (fun _ => Mk.drew hK) ?_ ?_
  · intro L vs ac wc i o' hF hLi ho hd K hK
    rcases i with _ | _ | _ | _ | _ | _ | _ | i
    · have ho' := ho
      obtain rfl := Option.some.inj ho
      have f1 : ac.tmps.getD 1 undef = .pointer (some ⟨bA, 0, none⟩) := slott hF 0 hLi 1 (by kernel_rfl)
      refine step_do ho' (wanted_free rfl) ?_
      exact wp_load_own 22 (.tmp 1) rfl bA f1 (B32 (bdig a)) _ 22 hF.j.1.h2 Tryd.underlying22 rfl (B32_info _) (hK _ _ (.inr rfl) hF.j)
    · have ho' := ho
      obtain rfl := Option.some.inj ho
      have f5 : ac.tmps.getD 5 undef = .pointer (some ⟨bL, 0, none⟩) := slott hF 1 hLi 5 (by kernel_rfl)
      refine step_do ho' (wanted_free rfl) ?_
      exact wp_load_own 22 (.tmp 5) rfl bL f5 (B32 (bdig l)) _ 22 hF.j.1.h1 Tryd.underlying22 rfl (B32_info _) (hK _ _ (.inr rfl) hF.j)
    · have ho' := ho
      obtain rfl := Option.some.inj ho
      have f3 : ac.tmps.getD 3 undef = .func (Fn.func 4) #[] #[] := slott hF 2 hLi 3 (by kernel_rfl)
      refine step_do ho' (wanted_free rfl) ?_
      unfold Oper.wp
      go_simp
      exact hK _ _ (.inr rfl) hF.j
    · have ho' := ho
      obtain rfl := Option.some.inj ho
      have f21 : ac.tmps.getD 21 undef = .func (Fn.func 4) #[] #[] := (factt hF hd 2 rfl rfl (by kernel_rfl)).1.trans (factt hF hd 2 rfl rfl (by kernel_rfl)).2
      refine step_do ho' (wanted_free rfl) ?_
      unfold Oper.wp
      go_simp
      refine (num_any 0 (by decide) _).mono ?_
      rintro e w' ⟨rfl, hB⟩
      exact hK _ _ (.inr rfl) (hF.j.below hB)
    · have ho' := ho
      obtain rfl := Option.some.inj ho
      have f19 : ac.tmps.getD 19 undef = .agg (B32 (bdig a)) := (factt hF hd 0 rfl rfl (by kernel_rfl)).1.trans (factt hF hd 0 rfl rfl (by kernel_rfl)).2
      have f20 : ac.tmps.getD 20 undef = .agg (B32 (bdig l)) := (factt hF hd 1 rfl rfl (by kernel_rfl)).1.trans (factt hF hd 1 rfl rfl (by kernel_rfl)).2
      have f22 : ac.tmps.getD 22 undef = .agg (B32 (bdig 0)) := (factt hF hd 3 rfl rfl (by kernel_rfl)).1.trans (factt hF hd 3 rfl rfl (by kernel_rfl)).2
      refine step_do ho' (wanted_free rfl) ?_
      unfold Oper.wp
      go_simp
      refine (F.muladdA ha hl (by decide) Hx.out _ (F.keep _ _ hT hF.j.1.2)).mono ?_
      rintro e w' ⟨rfl, hB⟩
      exact hK _ _ (.inr rfl) (hF.j.below hB)
    · have ho' := ho
      obtain rfl := Option.some.inj ho
      refine step_do ho' (wanted_free rfl) ?_
      have hs := notyett hF 5 hLi 6 rfl (by kernel_rfl)
      unfold Oper.wp
      go_simp
      exact hK _ _ (.inr ⟨_, rfl⟩) (Mk.alloc hF.j.1 hs)
    · have ho' := ho
      obtain rfl := Option.some.inj ho
      have f23 : ac.tmps.getD 23 undef = .agg (B32 (bdig x)) := (factt hF hd 4 rfl rfl (by kernel_rfl)).1.trans (factt hF hd 4 rfl rfl (by kernel_rfl)).2
      refine step_do ho' (wanted_free rfl) ?_
      obtain ⟨fg, g, hg⟩ := factt hF hd 5 rfl rfl (by kernel_rfl)
      have hm := dep hd 5 (by kernel_rfl)
      have hj := hF.j
      rw [hg] at fg
      have hj2 := hj.at hm hg hLi
      refine wp_store_own 22 (.tmp 6) (.tmp 23) rfl g (B32 (bdig x)) fg f23 hj2.2.2 (B32_sizes _ _) (B32_info _) (B32_one _) rfl ?_
      exact hK undef _ (.inl rfl) (hj.store hm hg hLi (B32_sizes _ _))
    · cases ho
  · intro L vs wq hL hJ hf
    obtain ⟨g, hg⟩ := hf 5 _ _ rfl rfl
    obtain ⟨hKq, hgl, hgn⟩ := hJ.done (hL 5 (by decide)) hg (hL 6 (by decide))
    have e0 : vs 0 = _ := hf 0 _ _ rfl rfl
    have e1 : vs 1 = _ := hf 1 _ _ rfl rfl
    have e2 : vs 2 = _ := hf 2 _ _ rfl rfl
    have e3 : vs 3 = _ := hf 3 _ _ rfl rfl
    have e4 : vs 4 = _ := hf 4 _ _ rfl rfl
    simp only [putAll, Nat.zero_add, Nat.reduceAdd, e0, e1, e2, e3, e4, hg, Act.put, List.setIfInBounds_toArray, List.set_cons_succ, List.set_cons_zero]
    clear hK hf hJ hL
    have hTq := F.keep _ _ hT hKq.2
    go_upto_region 5 with fail
    refine wp_region_stable 49 (by kernel_rfl) (by kernel_rfl) (by rfl) (fun i vv _ => vv = valTu a l x m i) (fun _ _ _ _ _ h => h) ?_ ?_
    · intro L ac wc i o hF ho hd
      rcases i with _ | _ | _ | _ | _ | _ | _ | _ | _ | _ | _ | _ | _ | _ | _ | _ | _ | _ | _ | _ | _ | _ | _ | _ | _ | _ | i
      · obtain rfl := Option.some.inj ho
        have f6 : ac.tmps.getD 6 undef = .pointer (some ⟨g, 0, none⟩) := slot hF 6 (by kernel_rfl)
        refine ⟨wanted_free rfl, fun K hK => ?_⟩
        exact wp_load_own 22 (.tmp 6) rfl g f6 (B32 (bdig x)) _ 22 ((hKq.below hF.cls).at g (B32 (bdig x)) 22 (by simp)) Tryd.underlying22 rfl (B32_info _) (hK _ _ (Below.refl _ _) rfl)
      · obtain rfl := Option.some.inj ho
        have f3 : ac.tmps.getD 3 undef = .func (Fn.func 4) #[] #[] := slot hF 3 (by kernel_rfl)
        refine ⟨wanted_free rfl, fun K hK => ?_⟩
        unfold Oper.wp
        go_simp
        exact hK _ _ (Below.refl _ _) rfl
      · obtain rfl := Option.some.inj ho
        have f25 : ac.tmps.getD 25 undef = .func (Fn.func 4) #[] #[] := hF.fact 1 _ _ rfl rfl (dep hd 1 (by kernel_rfl))
        refine ⟨wanted_free rfl, fun K hK => ?_⟩
        unfold Oper.wp
        go_simp
        refine (num_any 1 (by decide) _).mono ?_
        rintro e w' ⟨rfl, hB⟩
        exact hK _ _ hB rfl
      · obtain rfl := Option.some.inj ho
        have f1 : ac.tmps.getD 1 undef = .pointer (some ⟨bA, 0, none⟩) := slot hF 1 (by kernel_rfl)
        refine ⟨wanted_free rfl, fun K hK => ?_⟩
        exact wp_load_own 22 (.tmp 1) rfl bA f1 (B32 (bdig a)) _ 22 ((hKq.below hF.cls).at bA (B32 (bdig a)) 22 (by simp)) Tryd.underlying22 rfl (B32_info _) (hK _ _ (Below.refl _ _) rfl)
      · obtain rfl := Option.some.inj ho
        have f24 : ac.tmps.getD 24 undef = .agg (B32 (bdig x)) := hF.fact 0 _ _ rfl rfl (dep hd 0 (by kernel_rfl))
        have f26 : ac.tmps.getD 26 undef = .agg (B32 (bdig 1)) := hF.fact 2 _ _ rfl rfl (dep hd 2 (by kernel_rfl))
        have f27 : ac.tmps.getD 27 undef = .agg (B32 (bdig a)) := hF.fact 3 _ _ rfl rfl (dep hd 3 (by kernel_rfl))
        refine ⟨wanted_free rfl, fun K hK => ?_⟩
        unfold Oper.wp
        go_simp
        refine (F.muladdA hx h1 ha H0.out _ (F.keep _ _ hTq hF.cls)).mono ?_
        rintro e w' ⟨rfl, hB⟩
        exact hK _ _ hB rfl
      · obtain rfl := Option.some.inj ho
        have f3 : ac.tmps.getD 3 undef = .func (Fn.func 4) #[] #[] := slot hF 3 (by kernel_rfl)
        refine ⟨wanted_free rfl, fun K hK => ?_⟩
        unfold Oper.wp
        go_simp
        exact hK _ _ (Below.refl _ _) rfl
      · obtain rfl := Option.some.inj ho
        have f29 : ac.tmps.getD 29 undef = .func (Fn.func 4) #[] #[] := hF.fact 5 _ _ rfl rfl (dep hd 5 (by kernel_rfl))
        refine ⟨wanted_free rfl, fun K hK => ?_⟩
        unfold Oper.wp
        go_simp
        refine (num_any 0 (by decide) _).mono ?_
        rintro e w' ⟨rfl, hB⟩
        exact hK _ _ hB rfl
      · obtain rfl := Option.some.inj ho
        have f28 : ac.tmps.getD 28 undef = .agg (B32 (bdig 0)) := hF.fact 4 _ _ rfl rfl (dep hd 4 (by kernel_rfl))
        have f30 : ac.tmps.getD 30 undef = .agg (B32 (bdig 0)) := hF.fact 6 _ _ rfl rfl (dep hd 6 (by kernel_rfl))
        refine ⟨wanted_free rfl, fun K hK => ?_⟩
        unfold Oper.wp
        go_simp
        exact hK _ _ (Below.refl _ _) rfl
      · obtain rfl := Option.some.inj ho
        have f31 : ac.tmps.getD 31 undef = .bool true := hF.fact 7 _ _ rfl rfl (dep hd 7 (by kernel_rfl))
        refine ⟨wanted_free rfl, fun K hK => ?_⟩
        unfold Oper.wp
        go_simp
        exact hK _ _ (Below.refl _ _) rfl
      · obtain rfl := Option.some.inj ho
        have f6 : ac.tmps.getD 6 undef = .pointer (some ⟨g, 0, none⟩) := slot hF 6 (by kernel_rfl)
        have fg : ac.tmps.getD 32 undef = .bool true := hF.fact 8 _ _ rfl rfl (dep hd 8 (by kernel_rfl))
        refine ⟨wanted_true (g := 8) rfl rfl rfl fg, fun K hK => ?_⟩
        exact wp_load_own 22 (.tmp 6) rfl g f6 (B32 (bdig x)) _ 22 ((hKq.below hF.cls).at g (B32 (bdig x)) 22 (by simp)) Tryd.underlying22 rfl (B32_info _) (hK _ _ (Below.refl _ _) rfl)
      · obtain rfl := Option.some.inj ho
        have f5 : ac.tmps.getD 5 undef = .pointer (some ⟨bL, 0, none⟩) := slot hF 5 (by kernel_rfl)
        have fg : ac.tmps.getD 32 undef = .bool true := hF.fact 8 _ _ rfl rfl (dep hd 8 (by kernel_rfl))
        refine ⟨wanted_true (g := 8) rfl rfl rfl fg, fun K hK => ?_⟩
        exact wp_load_own 22 (.tmp 5) rfl bL f5 (B32 (bdig l)) _ 22 ((hKq.below hF.cls).at bL (B32 (bdig l)) 22 (by simp)) Tryd.underlying22 rfl (B32_info _) (hK _ _ (Below.refl _ _) rfl)
      · obtain rfl := Option.some.inj ho
        have f3 : ac.tmps.getD 3 undef = .func (Fn.func 4) #[] #[] := slot hF 3 (by kernel_rfl)
        have fg : ac.tmps.getD 32 undef = .bool true := hF.fact 8 _ _ rfl rfl (dep hd 8 (by kernel_rfl))
        refine ⟨wanted_true (g := 8) rfl rfl rfl fg, fun K hK => ?_⟩
        unfold Oper.wp
        go_simp
        exact hK _ _ (Below.refl _ _) rfl
      · obtain rfl := Option.some.inj ho
        have f35 : ac.tmps.getD 35 undef = .func (Fn.func 4) #[] #[] := hF.fact 11 _ _ rfl rfl (dep hd 11 (by kernel_rfl))
        have fg : ac.tmps.getD 32 undef = .bool true := hF.fact 8 _ _ rfl rfl (dep hd 8 (by kernel_rfl))
        refine ⟨wanted_true (g := 8) rfl rfl rfl fg, fun K hK => ?_⟩
        unfold Oper.wp
        go_simp
        refine (num_any 0 (by decide) _).mono ?_
        rintro e w' ⟨rfl, hB⟩
        exact hK _ _ hB rfl
      · obtain rfl := Option.some.inj ho
        have f33 : ac.tmps.getD 33 undef = .agg (B32 (bdig x)) := hF.fact 9 _ _ rfl rfl (dep hd 9 (by kernel_rfl))
        have f34 : ac.tmps.getD 34 undef = .agg (B32 (bdig l)) := hF.fact 10 _ _ rfl rfl (dep hd 10 (by kernel_rfl))
        have f36 : ac.tmps.getD 36 undef = .agg (B32 (bdig 0)) := hF.fact 12 _ _ rfl rfl (dep hd 12 (by kernel_rfl))
        have fg : ac.tmps.getD 32 undef = .bool true := hF.fact 8 _ _ rfl rfl (dep hd 8 (by kernel_rfl))
        refine ⟨wanted_true (g := 8) rfl rfl rfl fg, fun K hK => ?_⟩
        unfold Oper.wp
        go_simp
        refine (F.muladdA hx hl h0 Hm2.out _ (F.keep _ _ hTq hF.cls)).mono ?_
        rintro e w' ⟨rfl, hB⟩
        exact hK _ _ hB rfl
      · obtain rfl := Option.some.inj ho
        have f1 : ac.tmps.getD 1 undef = .pointer (some ⟨bA, 0, none⟩) := slot hF 1 (by kernel_rfl)
        have fg : ac.tmps.getD 32 undef = .bool true := hF.fact 8 _ _ rfl rfl (dep hd 8 (by kernel_rfl))
        refine ⟨wanted_true (g := 8) rfl rfl rfl fg, fun K hK => ?_⟩
        exact wp_load_own 22 (.tmp 1) rfl bA f1 (B32 (bdig a)) _ 22 ((hKq.below hF.cls).at bA (B32 (bdig a)) 22 (by simp)) Tryd.underlying22 rfl (B32_info _) (hK _ _ (Below.refl _ _) rfl)
      · obtain rfl := Option.some.inj ho
        have f38 : ac.tmps.getD 38 undef = .agg (B32 (bdig a)) := hF.fact 14 _ _ rfl rfl (dep hd 14 (by kernel_rfl))
        have fg : ac.tmps.getD 32 undef = .bool true := hF.fact 8 _ _ rfl rfl (dep hd 8 (by kernel_rfl))
        refine ⟨wanted_true (g := 8) rfl rfl rfl fg, fun K hK => ?_⟩
        unfold Oper.wp
        go_simp
        refine (F.modA ha Hm.out _ (F.keep _ _ hTq hF.cls)).mono ?_
        rintro e w' ⟨rfl, hB⟩
        exact hK _ _ hB rfl
      · obtain rfl := Option.some.inj ho
        have f37 : ac.tmps.getD 37 undef = .agg (B32 (bdig m)) := hF.fact 13 _ _ rfl rfl (dep hd 13 (by kernel_rfl))
        have f39 : ac.tmps.getD 39 undef = .agg (B32 (bdig m)) := hF.fact 15 _ _ rfl rfl (dep hd 15 (by kernel_rfl))
        have fg : ac.tmps.getD 32 undef = .bool true := hF.fact 8 _ _ rfl rfl (dep hd 8 (by kernel_rfl))
        refine ⟨wanted_true (g := 8) rfl rfl rfl fg, fun K hK => ?_⟩
        unfold Oper.wp
        go_simp
        exact hK _ _ (Below.refl _ _) rfl
      · obtain rfl := Option.some.inj ho
        have f32 : ac.tmps.getD 32 undef = .bool true := hF.fact 8 _ _ rfl rfl (dep hd 8 (by kernel_rfl))
        have f40 : ac.tmps.getD 40 undef = .bool true := hF.fact 16 _ _ rfl rfl (dep hd 16 (by kernel_rfl))
        refine ⟨wanted_free rfl, fun K hK => ?_⟩
        unfold Oper.wp
        go_simp
        exact hK _ _ (Below.refl _ _) rfl
      · obtain rfl := Option.some.inj ho
        have f41 : ac.tmps.getD 41 undef = .bool true := hF.fact 17 _ _ rfl rfl (dep hd 17 (by kernel_rfl))
        refine ⟨wanted_free rfl, fun K hK => ?_⟩
        unfold Oper.wp
        go_simp
        exact hK _ _ (Below.refl _ _) rfl
      · obtain rfl := Option.some.inj ho
        have f5 : ac.tmps.getD 5 undef = .pointer (some ⟨bL, 0, none⟩) := slot hF 5 (by kernel_rfl)
        have fg : ac.tmps.getD 42 undef = .bool true := hF.fact 18 _ _ rfl rfl (dep hd 18 (by kernel_rfl))
        refine ⟨wanted_true (g := 18) rfl rfl rfl fg, fun K hK => ?_⟩
        exact wp_load_own 22 (.tmp 5) rfl bL f5 (B32 (bdig l)) _ 22 ((hKq.below hF.cls).at bL (B32 (bdig l)) 22 (by simp)) Tryd.underlying22 rfl (B32_info _) (hK _ _ (Below.refl _ _) rfl)
      · obtain rfl := Option.some.inj ho
        have f43 : ac.tmps.getD 43 undef = .agg (B32 (bdig l)) := hF.fact 19 _ _ rfl rfl (dep hd 19 (by kernel_rfl))
        have fg : ac.tmps.getD 42 undef = .bool true := hF.fact 18 _ _ rfl rfl (dep hd 18 (by kernel_rfl))
        refine ⟨wanted_true (g := 18) rfl rfl rfl fg, fun K hK => ?_⟩
        unfold Oper.wp
        go_simp
        refine (F.check l hl _ (F.keep _ _ hTq hF.cls)).mono ?_
        rintro e w' ⟨rfl, hB⟩
        rw [decide_eq_true hlL.out]
        exact hK _ _ hB rfl
      · obtain rfl := Option.some.inj ho
        have f42 : ac.tmps.getD 42 undef = .bool true := hF.fact 18 _ _ rfl rfl (dep hd 18 (by kernel_rfl))
        have f44 : ac.tmps.getD 44 undef = .bool true := hF.fact 20 _ _ rfl rfl (dep hd 20 (by kernel_rfl))
        refine ⟨wanted_free rfl, fun K hK => ?_⟩
        unfold Oper.wp
        go_simp
        exact hK _ _ (Below.refl _ _) rfl
      · obtain rfl := Option.some.inj ho
        have f45 : ac.tmps.getD 45 undef = .bool true := hF.fact 21 _ _ rfl rfl (dep hd 21 (by kernel_rfl))
        refine ⟨wanted_free rfl, fun K hK => ?_⟩
        unfold Oper.wp
        go_simp
        exact hK _ _ (Below.refl _ _) rfl
      · obtain rfl := Option.some.inj ho
        have fg : ac.tmps.getD 46 undef = .bool true := hF.fact 22 _ _ rfl rfl (dep hd 22 (by kernel_rfl))
        refine ⟨wanted_true (g := 22) rfl rfl rfl fg, fun K hK => ?_⟩
        unfold Oper.wp
        go_simp
        refine (swakes_any F _ (F.keep _ _ hTq hF.cls)).mono ?_
        rintro e w' ⟨rfl, hB⟩
        exact hK _ _ hB rfl
      · obtain rfl := Option.some.inj ho
        have f46 : ac.tmps.getD 46 undef = .bool true := hF.fact 22 _ _ rfl rfl (dep hd 22 (by kernel_rfl))
        have f47 : ac.tmps.getD 47 undef = .bool true := hF.fact 23 _ _ rfl rfl (dep hd 23 (by kernel_rfl))
        refine ⟨wanted_free rfl, fun K hK => ?_⟩
        unfold Oper.wp
        go_simp
        exact hK _ _ (Below.refl _ _) rfl
      · obtain rfl := Option.some.inj ho
        have f48 : ac.tmps.getD 48 undef = .bool true := hF.fact 24 _ _ rfl rfl (dep hd 24 (by kernel_rfl))
        refine ⟨wanted_free rfl, fun K hK => ?_⟩
        unfold Oper.wp
        go_simp
        exact hK _ _ (Below.refl _ _) rfl
      · cases ho
    · intro L ac wc hL hF
      have fe : ac.tmps.getD 2 undef = .bool true := hF.fact 25 _ 2 rfl rfl (hL 25 (by decide))
      have hb' := (hKq.below hF.cls).2
      go_wp2
      exact bodyPost_ret (results_tmp rfl _ _ _) hF.defers ⟨by rw [fe], hb'⟩
end Go.Proofs.YtofoihebhdpjlabDoor
