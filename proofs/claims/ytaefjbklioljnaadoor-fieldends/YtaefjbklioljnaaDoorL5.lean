/- The walk of the law FieldEnds, over the program's functions by their contracts. -/
import Derived.Test.YtaefjbklioljnaaDoorE14
import Derived.Test.YtaefjbklioljnaaDoorE13
namespace Go.Proofs.YtaefjbklioljnaaDoor
open Go.RowKit
theorem small_R5 {n : Nat} (h : n < 9223372036854775808) : n < R256 := Nat.lt_trans h (by decide)
theorem bytes_at {A : Array Value} {n : Nat} (h : A = numA n) (w : World) : Calls Tryd.prog 13 #[.agg A] w fun x w' => x = .returned (.agg (B32 (bdig n))) ∧ Below w.heap.size w w' := by
  rw [h]; exact bytesOf_any n w
/-- Four words are a number. -/
theorem lit4 (f : Nat → Nat) (h : ∀ i, i < 4 → f i < 18446744073709551616) (n : Nat) (hn : f 0 + 18446744073709551616 * (f 1 + 18446744073709551616 * (f 2 + 18446744073709551616 * f 3)) = n) :
    (#[.int .u64 (f 0 : Int), .int .u64 (f 1 : Int), .int .u64 (f 2 : Int), .int .u64 (f 3 : Int)] : Array Value) = numA n := by
  have : vl f 4 = n := by rw [← hn]; simp only [vl]; omega
  rw [← this]; exact A4_num f h
def word5 (a b c d : Nat) : Nat → Nat
  | 0 => a
  | 1 => b
  | 2 => c
  | _ => d
theorem word5_lt {a b c d : Nat} (ha : a < 18446744073709551616) (hb : b < 18446744073709551616) (hc : c < 18446744073709551616) (hd : d < 18446744073709551616) : ∀ i, i < 4 → word5 a b c d i < 18446744073709551616
  | 0, _ => ha
  | 1, _ => hb
  | 2, _ => hc
  | 3, _ => hd
theorem rem5 (a : Int) (q : Nat) (z : Int) (hz : z = (q : Int)) (hq : 0 < q) (hq' : q < 1000) : ∃ k : Nat, k < q ∧ (IntKind.u64.wrap a).tmod z = (k : Int) ∧ wrap64 ((IntKind.u64.wrap a).tmod z) = (k : Int) := by
  have hw := IntKind.wrap_u64 a
  have h0 : 0 ≤ IntKind.u64.wrap a := by rw [hw]; omega
  generalize IntKind.u64.wrap a = x at *
  rw [Int.tmod_eq_emod_of_nonneg h0, hz]
  have h1 := Int.emod_nonneg x (show (q : Int) ≠ 0 by omega)
  have h2 := Int.emod_lt_of_pos x (show (0 : Int) < (q : Int) by omega)
  refine ⟨(x % (q : Int)).toNat, by omega, by omega, ?_⟩
  generalize x % (q : Int) = y at *
  rw [IntWalk.wrap64_in y (by omega)]
  omega
theorem ends0 (k : Nat) (h : k < 19) : (#[.int .u64 (18446744073709551597 + (k : Int)), .int .u64 18446744073709551615, .int .u64 18446744073709551615, .int .u64 9223372036854775807] : Array Value) = numA (pp + k) := by
  have e : 18446744073709551597 + (k : Int) = ((18446744073709551597 + k : Nat) : Int) := by omega
  rw [e]
  exact lit4 (word5 (18446744073709551597 + k) 18446744073709551615 18446744073709551615 9223372036854775807) (word5_lt (by omega) (by omega) (by omega) (by omega)) (pp + k) (by simp only [word5, pp]; omega)
theorem ends1 (k : Nat) (h : k < 19) : (#[.int .u64 (18446744073709551596 - (k : Int)), .int .u64 18446744073709551615, .int .u64 18446744073709551615, .int .u64 9223372036854775807] : Array Value) = numA (pp - 1 - k) := by
  have e : 18446744073709551596 - (k : Int) = ((18446744073709551596 - k : Nat) : Int) := by omega
  rw [e]
  exact lit4 (word5 (18446744073709551596 - k) 18446744073709551615 18446744073709551615 9223372036854775807) (word5_lt (by omega) (by omega) (by omega) (by omega)) (pp - 1 - k) (by simp only [word5, pp]; omega)
theorem ends2 (k : Nat) (h : k < 19) : (#[.int .u64 (IntKind.u64.wrap (IntKind.u64.wrap 36893488147419103194 + (k : Int))), .int .u64 18446744073709551615, .int .u64 18446744073709551615, .int .u64 18446744073709551615] : Array Value) = numA (2 * pp + k) := by
  have e : IntKind.u64.wrap (IntKind.u64.wrap 36893488147419103194 + (k : Int)) = ((18446744073709551578 + k : Nat) : Int) := by rw [IntKind.wrap_u64, IntKind.wrap_u64]; omega
  rw [e]
  exact lit4 (word5 (18446744073709551578 + k) 18446744073709551615 18446744073709551615 18446744073709551615) (word5_lt (by omega) (by omega) (by omega) (by omega)) (2 * pp + k) (by simp only [word5, pp]; omega)
theorem sub0 {n m : Nat} (h : n % pp = m) : (n % pp + pp - m % pp) % pp = 0 := by
  rw [← h, Nat.mod_mod, Nat.add_sub_cancel_left, Nat.mod_self]
theorem pp19 : pp + 19 ≤ R256 := by decide
theorem pp38 : 2 * pp + 19 ≤ R256 := by decide
theorem pp20 : 20 ≤ pp := by decide
theorem top_bytes : ∀ j, j < 32 → bdig (R256 - 1) j = 255 := by decide +kernel
def val18 (n m : Nat) : Nat → Value
  | 0 => .agg (B32 (bdig n))
  | 1 => .agg (B32 (bdig m))
  | 2 => .agg (B32 (bdig m))
  | 5 => .agg (B32 (bdig n))
  | 6 => .bool false
  | 10 => .agg (B32 (bdig n))
  | 11 => .agg (B32 (bdig m))
  | 12 => .agg (B32 (bdig 0))
  | 13 => .agg (B32 (bdig 0))
  | _ => .bool true
def val15 (n k k1 : Nat) : Nat → Value
  | 0 => .agg (B32 (bdig n))
  | 1 => .agg (B32 (bdig n))
  | 2 => .agg (B32 (bdig n))
  | 5 => .agg (B32 (bdig n))
  | 9 => .agg (B32 (bdig n))
  | 10 => .int .i64 (k : Int)
  | 11 => .int .i64 (IntKind.i64.wrap ((k : Int) + 1))
  | 12 => .agg (B32 (bdig k1))
  | 13 => .agg (B32 (bdig 0))
  | 14 => .agg (B32 (bdig 0))
  | _ => .bool true

set_option maxRecDepth 100000 in
set_option maxHeartbeats 16000000 in
theorem ends_any {T : World → Prop} (F : Fld T) (a b : Int) (w : World) (hT : T w) : Calls Tryd.prog 7 #[.int .i64 a, .int .i64 b] w fun x w' => x = .returned (.bool true) ∧ Below w.heap.size w w' := by
  have hz := (zero_of_info zeroB32).1
  have hzN := (zero_of_info zeroLit).1
  obtain ⟨k, hk, ek1, ek2⟩ := rem5 a 19 19 rfl (by decide) (by decide)
  obtain ⟨c, hc, ec, -⟩ := rem5 b 4 4 rfl (by decide) (by decide)
  have hks : k < 9223372036854775808 := by omega
  go_enter Tryd.func7, Tryd.ntmps7
  go_wp2_with fail
  refine (P_any w).mono ?_
  rintro e w1 ⟨rfl, b1⟩
  obtain ⟨A, HA⟩ : ∃ A, Hid (numA pp = A) := ⟨_, rfl⟩
  have hcells : Hid (A = _) := HA.out.symm.trans P_cells
  have hi : (Tryd.prog.info? 25).map (·.size) = some A.size := by rw [← HA.out]; exact numA_info pp
  have h1 : A.all (·.oneCell') = true := by rw [← HA.out]; exact numA_one pp
  have hs : 4 = A.size := by rw [← HA.out]; exact (numA_size pp).symm
  rw [HA.out]
  go_upto_region 3 with (refine wpList_store_new (by rfl) 25 (.tmp 5) (.tmp 13) (by rfl) _ A (by rfl) (by rw [hcells.out]; rfl) hi hs h1 (by rfl) ?_)
  clear hs h1 hi
  have hK0 := ((Kp.nil w).below b1).alloc A 25
  generalize w1.alloc (.cells A 25) = W1 at *
  generalize w1.heap.size = bP at *
  go_upto_region 4 with fail
  have hK1 := hK0.alloc (B32 fun _ => 0) 22
  have hle := hK0.2.size
  have lt1 := (hK0.at bP A 25 (by simp)).lt
  generalize W1.alloc (.cells (B32 fun _ => 0) 22) = W2 at *
  generalize W1.heap.size = bN at *
  go_wp2_with fail
  refine (num_any k hks _).mono ?_
  rintro e w3 ⟨rfl, b3⟩
  have hK2 := hK1.below b3
  have lt2 := (hK2.at bN (B32 fun _ => 0) 22 (by simp)).lt
  go_upto_region 5 with (refine wpList_store_new (by rfl) 22 (.tmp 7) (.tmp 15) (by rfl) _ (B32 (bdig k)) (by rfl) (by rfl) (B32_info _) (B32_sizes _ _) (B32_one _) (by rfl) ?_)
  have hK4 := hK2.alloc (B32 (bdig k)) 22
  generalize w3.alloc (.cells (B32 (bdig k)) 22) = W4 at *
  generalize w3.heap.size = bW at *
  clear hK0 hK1 hK2
  have oP := hK4.at bP A 25 (by simp)
  have c0 := oP.cell (i := 0) (by rw [hcells.out]; rfl)
  have c1 := oP.cell (i := 1) (by rw [hcells.out]; rfl)
  have c2 := oP.cell (i := 2) (by rw [hcells.out]; rfl)
  have c3 := oP.cell (i := 3) (by rw [hcells.out]; rfl)
  have ec' : (IntKind.u64.wrap b).tmod 4 = 0 ∨ (IntKind.u64.wrap b).tmod 4 = 1 ∨ (IntKind.u64.wrap b).tmod 4 = 2 ∨ (IntKind.u64.wrap b).tmod 4 = 3 := by omega
  clear ec
  rcases ec' with e | e | e | e
  · obtain ⟨n, Hn⟩ : ∃ n, Hid (pp + k = n) := ⟨_, rfl⟩
    have hn : n < R256 := by have := Hn.out; have := pp19; omega
    have Hmod : Hid (n % pp = k) := by show _ = _; rw [← Hn.out, Nat.add_mod_left]; exact Nat.mod_eq_of_lt (by have := pp20; omega)
    have Hsub : Hid ((n % pp + pp - k % pp) % pp = 0) := sub0 Hmod.out
    have hnp : Hid (¬ n < pp) := by show ¬ _; have := Hn.out; omega
    have same_k := B32_same k (small_R5 hks)
    have same_0 := B32_same 0 (by decide)
    go_wp2_with fail
    refine (bytes_at ((ends0 k hk).trans (congrArg numA Hn.out)) _).mono ?_
    rintro e w5 ⟨rfl, b5⟩
    have hK5 := hK4.below b5
    clear oP c0 c1 c2 c3
    go_upto_region 18 with (refine wpList_store_own (by rfl) 22 (.tmp 6) (.tmp 40) (by rfl) bN 0 (B32 (bdig n)) (by rfl) (by rfl) (hK5.at bN (B32 fun _ => 0) 22 (by simp)) (B32_le _ _) (B32_info _) (B32_one _) (by rfl) ?_)
    have hKq := Kp.set (A' := B32 (bdig n)) (hK5.sub (l' := [(bN, B32 fun _ => 0, 22), (bW, B32 (bdig k), 22), (bP, A, 25)]) (fun p hp => by simp only [List.mem_cons, List.not_mem_nil, or_false] at hp ⊢; rcases hp with h | h | h <;> simp [h])) (by simp; omega) hle (B32_sizes _ _)
    generalize w5.setCells bN 0 (B32 (bdig n)).toList = wq at *
    clear hK5 hK4
    have hTq := F.keep _ _ hT hKq.2
    go_upto_region 18 with fail
    refine wp_region_stable 106 (by kernel_rfl) (by kernel_rfl) (by rfl) (fun i v _ => v = val18 n k i) (fun _ _ _ _ _ h => h) ?_ ?_
    · intro L ac wc i o hF ho hd
      rcases i with _ | _ | _ | _ | _ | _ | _ | _ | _ | _ | _ | _ | _ | _ | _ | _ | _ | _ | _ | _ | i
      · obtain rfl := Option.some.inj ho
        have f6 : ac.tmps.getD 6 undef = .pointer (some ⟨bN, 0, none⟩) := slot hF 6 (by kernel_rfl)
        refine ⟨wanted_free rfl, fun K hK => ?_⟩
        exact wp_load_own 22 (.tmp 6) rfl bN f6 (B32 (bdig n)) _ 22 ((hKq.below hF.cls).at bN (B32 (bdig n)) 22 (by simp)) Tryd.underlying22 rfl (B32_info _) (hK _ _ (Below.refl _ _) rfl)
      · obtain rfl := Option.some.inj ho
        have f87 : ac.tmps.getD 87 undef = .agg (B32 (bdig n)) := hF.fact 0 _ _ rfl rfl (dep hd 0 (by kernel_rfl))
        refine ⟨wanted_free rfl, fun K hK => ?_⟩
        unfold Oper.wp
        go_simp
        refine (F.modA hn Hmod.out _ (F.keep _ _ hTq hF.cls)).mono ?_
        rintro e w' ⟨rfl, hB⟩
        exact hK _ _ hB rfl
      · obtain rfl := Option.some.inj ho
        have f7 : ac.tmps.getD 7 undef = .pointer (some ⟨bW, 0, none⟩) := slot hF 7 (by kernel_rfl)
        refine ⟨wanted_free rfl, fun K hK => ?_⟩
        exact wp_load_own 22 (.tmp 7) rfl bW f7 (B32 (bdig k)) _ 22 ((hKq.below hF.cls).at bW (B32 (bdig k)) 22 (by simp)) Tryd.underlying22 rfl (B32_info _) (hK _ _ (Below.refl _ _) rfl)
      · obtain rfl := Option.some.inj ho
        have f88 : ac.tmps.getD 88 undef = .agg (B32 (bdig k)) := hF.fact 1 _ _ rfl rfl (dep hd 1 (by kernel_rfl))
        have f89 : ac.tmps.getD 89 undef = .agg (B32 (bdig k)) := hF.fact 2 _ _ rfl rfl (dep hd 2 (by kernel_rfl))
        refine ⟨wanted_free rfl, fun K hK => ?_⟩
        unfold Oper.wp
        go_simp
        exact hK _ _ (Below.refl _ _) rfl
      · obtain rfl := Option.some.inj ho
        have f90 : ac.tmps.getD 90 undef = .bool true := hF.fact 3 _ _ rfl rfl (dep hd 3 (by kernel_rfl))
        refine ⟨wanted_free rfl, fun K hK => ?_⟩
        unfold Oper.wp
        go_simp
        exact hK _ _ (Below.refl _ _) rfl
      · obtain rfl := Option.some.inj ho
        have f6 : ac.tmps.getD 6 undef = .pointer (some ⟨bN, 0, none⟩) := slot hF 6 (by kernel_rfl)
        have fg : ac.tmps.getD 91 undef = .bool true := hF.fact 4 _ _ rfl rfl (dep hd 4 (by kernel_rfl))
        refine ⟨wanted_true (g := 4) rfl rfl rfl fg, fun K hK => ?_⟩
        exact wp_load_own 22 (.tmp 6) rfl bN f6 (B32 (bdig n)) _ 22 ((hKq.below hF.cls).at bN (B32 (bdig n)) 22 (by simp)) Tryd.underlying22 rfl (B32_info _) (hK _ _ (Below.refl _ _) rfl)
      · obtain rfl := Option.some.inj ho
        have f92 : ac.tmps.getD 92 undef = .agg (B32 (bdig n)) := hF.fact 5 _ _ rfl rfl (dep hd 5 (by kernel_rfl))
        have fg : ac.tmps.getD 91 undef = .bool true := hF.fact 4 _ _ rfl rfl (dep hd 4 (by kernel_rfl))
        refine ⟨wanted_true (g := 4) rfl rfl rfl fg, fun K hK => ?_⟩
        unfold Oper.wp
        go_simp
        refine (F.check n hn _ (F.keep _ _ hTq hF.cls)).mono ?_
        rintro e w' ⟨rfl, hB⟩
        rw [decide_eq_false hnp.out]
        exact hK _ _ hB rfl
      · obtain rfl := Option.some.inj ho
        have f93 : ac.tmps.getD 93 undef = .bool false := hF.fact 6 _ _ rfl rfl (dep hd 6 (by kernel_rfl))
        have fg : ac.tmps.getD 91 undef = .bool true := hF.fact 4 _ _ rfl rfl (dep hd 4 (by kernel_rfl))
        refine ⟨wanted_true (g := 4) rfl rfl rfl fg, fun K hK => ?_⟩
        unfold Oper.wp
        go_simp
        exact hK _ _ (Below.refl _ _) rfl
      · obtain rfl := Option.some.inj ho
        have f91 : ac.tmps.getD 91 undef = .bool true := hF.fact 4 _ _ rfl rfl (dep hd 4 (by kernel_rfl))
        have f94 : ac.tmps.getD 94 undef = .bool true := hF.fact 7 _ _ rfl rfl (dep hd 7 (by kernel_rfl))
        refine ⟨wanted_free rfl, fun K hK => ?_⟩
        unfold Oper.wp
        go_simp
        exact hK _ _ (Below.refl _ _) rfl
      · obtain rfl := Option.some.inj ho
        have f95 : ac.tmps.getD 95 undef = .bool true := hF.fact 8 _ _ rfl rfl (dep hd 8 (by kernel_rfl))
        refine ⟨wanted_free rfl, fun K hK => ?_⟩
        unfold Oper.wp
        go_simp
        exact hK _ _ (Below.refl _ _) rfl
      · obtain rfl := Option.some.inj ho
        have f6 : ac.tmps.getD 6 undef = .pointer (some ⟨bN, 0, none⟩) := slot hF 6 (by kernel_rfl)
        have fg : ac.tmps.getD 96 undef = .bool true := hF.fact 9 _ _ rfl rfl (dep hd 9 (by kernel_rfl))
        refine ⟨wanted_true (g := 9) rfl rfl rfl fg, fun K hK => ?_⟩
        exact wp_load_own 22 (.tmp 6) rfl bN f6 (B32 (bdig n)) _ 22 ((hKq.below hF.cls).at bN (B32 (bdig n)) 22 (by simp)) Tryd.underlying22 rfl (B32_info _) (hK _ _ (Below.refl _ _) rfl)
      · obtain rfl := Option.some.inj ho
        have f7 : ac.tmps.getD 7 undef = .pointer (some ⟨bW, 0, none⟩) := slot hF 7 (by kernel_rfl)
        have fg : ac.tmps.getD 96 undef = .bool true := hF.fact 9 _ _ rfl rfl (dep hd 9 (by kernel_rfl))
        refine ⟨wanted_true (g := 9) rfl rfl rfl fg, fun K hK => ?_⟩
        exact wp_load_own 22 (.tmp 7) rfl bW f7 (B32 (bdig k)) _ 22 ((hKq.below hF.cls).at bW (B32 (bdig k)) 22 (by simp)) Tryd.underlying22 rfl (B32_info _) (hK _ _ (Below.refl _ _) rfl)
      · obtain rfl := Option.some.inj ho
        have f97 : ac.tmps.getD 97 undef = .agg (B32 (bdig n)) := hF.fact 10 _ _ rfl rfl (dep hd 10 (by kernel_rfl))
        have f98 : ac.tmps.getD 98 undef = .agg (B32 (bdig k)) := hF.fact 11 _ _ rfl rfl (dep hd 11 (by kernel_rfl))
        have fg : ac.tmps.getD 96 undef = .bool true := hF.fact 9 _ _ rfl rfl (dep hd 9 (by kernel_rfl))
        refine ⟨wanted_true (g := 9) rfl rfl rfl fg, fun K hK => ?_⟩
        unfold Oper.wp
        go_simp
        refine (F.subA hn (small_R5 hks) Hsub.out _ (F.keep _ _ hTq hF.cls)).mono ?_
        rintro e w' ⟨rfl, hB⟩
        exact hK _ _ hB rfl
      · obtain rfl := Option.some.inj ho
        have fg : ac.tmps.getD 96 undef = .bool true := hF.fact 9 _ _ rfl rfl (dep hd 9 (by kernel_rfl))
        refine ⟨wanted_true (g := 9) rfl rfl rfl fg, fun K hK => ?_⟩
        unfold Oper.wp
        go_simp
        refine (num_any 0 (by decide) _).mono ?_
        rintro e w' ⟨rfl, hB⟩
        exact hK _ _ hB rfl
      · obtain rfl := Option.some.inj ho
        have f99 : ac.tmps.getD 99 undef = .agg (B32 (bdig 0)) := hF.fact 12 _ _ rfl rfl (dep hd 12 (by kernel_rfl))
        have f100 : ac.tmps.getD 100 undef = .agg (B32 (bdig 0)) := hF.fact 13 _ _ rfl rfl (dep hd 13 (by kernel_rfl))
        have fg : ac.tmps.getD 96 undef = .bool true := hF.fact 9 _ _ rfl rfl (dep hd 9 (by kernel_rfl))
        refine ⟨wanted_true (g := 9) rfl rfl rfl fg, fun K hK => ?_⟩
        unfold Oper.wp
        go_simp
        exact hK _ _ (Below.refl _ _) rfl
      · obtain rfl := Option.some.inj ho
        have f96 : ac.tmps.getD 96 undef = .bool true := hF.fact 9 _ _ rfl rfl (dep hd 9 (by kernel_rfl))
        have f101 : ac.tmps.getD 101 undef = .bool true := hF.fact 14 _ _ rfl rfl (dep hd 14 (by kernel_rfl))
        refine ⟨wanted_free rfl, fun K hK => ?_⟩
        unfold Oper.wp
        go_simp
        exact hK _ _ (Below.refl _ _) rfl
      · obtain rfl := Option.some.inj ho
        have f102 : ac.tmps.getD 102 undef = .bool true := hF.fact 15 _ _ rfl rfl (dep hd 15 (by kernel_rfl))
        refine ⟨wanted_free rfl, fun K hK => ?_⟩
        unfold Oper.wp
        go_simp
        exact hK _ _ (Below.refl _ _) rfl
      · obtain rfl := Option.some.inj ho
        have fg : ac.tmps.getD 103 undef = .bool true := hF.fact 16 _ _ rfl rfl (dep hd 16 (by kernel_rfl))
        refine ⟨wanted_true (g := 16) rfl rfl rfl fg, fun K hK => ?_⟩
        unfold Oper.wp
        go_simp
        refine (wakes_any F _ (F.keep _ _ hTq hF.cls)).mono ?_
        rintro e w' ⟨rfl, hB⟩
        exact hK _ _ hB rfl
      · obtain rfl := Option.some.inj ho
        have f103 : ac.tmps.getD 103 undef = .bool true := hF.fact 16 _ _ rfl rfl (dep hd 16 (by kernel_rfl))
        have f104 : ac.tmps.getD 104 undef = .bool true := hF.fact 17 _ _ rfl rfl (dep hd 17 (by kernel_rfl))
        refine ⟨wanted_free rfl, fun K hK => ?_⟩
        unfold Oper.wp
        go_simp
        exact hK _ _ (Below.refl _ _) rfl
      · obtain rfl := Option.some.inj ho
        have f105 : ac.tmps.getD 105 undef = .bool true := hF.fact 18 _ _ rfl rfl (dep hd 18 (by kernel_rfl))
        refine ⟨wanted_free rfl, fun K hK => ?_⟩
        unfold Oper.wp
        go_simp
        exact hK _ _ (Below.refl _ _) rfl
      · cases ho
    · intro L ac wc hL hF
      have f4 : ac.tmps.getD 4 undef = .bool true := hF.fact 19 _ 4 rfl rfl (hL 19 (by decide))
      have hb' := (hKq.below hF.cls).2
      go_wp2
      exact bodyPost_ret (results_tmp rfl _ _ _) hF.defers ⟨by rw [f4], hb'⟩
  · obtain ⟨n, Hn⟩ : ∃ n, Hid (pp - 1 - k = n) := ⟨_, rfl⟩
    have hn : n < R256 := by have := Hn.out; have := pp19; omega
    have hnl : n < pp := by have := Hn.out; have := pp20; omega
    have Hmod : Hid (n % pp = n) := Nat.mod_eq_of_lt hnl
    obtain ⟨k1, Hk1⟩ : ∃ k1, Hid (k + 1 = k1) := ⟨_, rfl⟩
    have hk1 : k1 < 9223372036854775808 := by have := Hk1.out; omega
    have wk1 : Hid (IntKind.i64.wrap ((k : Int) + 1) = (k1 : Int)) := by show _ = _; rw [IntKind.wrap_i64]; have := Hk1.out; omega
    have Hadd : Hid ((n + k1) % pp = 0) := by show _ = _; rw [show n + k1 = pp by have := Hn.out; have := Hk1.out; have := pp20; omega]; exact Nat.mod_self _
    have hnp : Hid (n < pp) := hnl
    clear hnl
    have same_n := B32_same n hn
    have same_0 := B32_same 0 (by decide)
    go_wp2_with fail
    refine (bytes_at ((ends1 k hk).trans (congrArg numA Hn.out)) _).mono ?_
    rintro e w5 ⟨rfl, b5⟩
    have hK5 := hK4.below b5
    clear oP c0 c1 c2 c3
    go_upto_region 15 with (refine wpList_store_own (by rfl) 22 (.tmp 6) (.tmp 56) (by rfl) bN 0 (B32 (bdig n)) (by rfl) (by rfl) (hK5.at bN (B32 fun _ => 0) 22 (by simp)) (B32_le _ _) (B32_info _) (B32_one _) (by rfl) ?_)
    have hKq := Kp.set (A' := B32 (bdig n)) (hK5.sub (l' := [(bN, B32 fun _ => 0, 22), (bW, B32 (bdig k), 22), (bP, A, 25)]) (fun p hp => by simp only [List.mem_cons, List.not_mem_nil, or_false] at hp ⊢; rcases hp with h | h | h <;> simp [h])) (by simp; omega) hle (B32_sizes _ _)
    generalize w5.setCells bN 0 (B32 (bdig n)).toList = wq at *
    clear hK5 hK4
    have hTq := F.keep _ _ hT hKq.2
    go_upto_region 15 with fail
    refine wp_region_stable 106 (by kernel_rfl) (by kernel_rfl) (by rfl) (fun i v _ => v = val15 n k k1 i) (fun _ _ _ _ _ h => h) ?_ ?_
    · intro L ac wc i o hF ho hd
      rcases i with _ | _ | _ | _ | _ | _ | _ | _ | _ | _ | _ | _ | _ | _ | _ | _ | _ | _ | _ | _ | _ | i
      · obtain rfl := Option.some.inj ho
        have f6 : ac.tmps.getD 6 undef = .pointer (some ⟨bN, 0, none⟩) := slot hF 6 (by kernel_rfl)
        refine ⟨wanted_free rfl, fun K hK => ?_⟩
        exact wp_load_own 22 (.tmp 6) rfl bN f6 (B32 (bdig n)) _ 22 ((hKq.below hF.cls).at bN (B32 (bdig n)) 22 (by simp)) Tryd.underlying22 rfl (B32_info _) (hK _ _ (Below.refl _ _) rfl)
      · obtain rfl := Option.some.inj ho
        have f57 : ac.tmps.getD 57 undef = .agg (B32 (bdig n)) := hF.fact 0 _ _ rfl rfl (dep hd 0 (by kernel_rfl))
        refine ⟨wanted_free rfl, fun K hK => ?_⟩
        unfold Oper.wp
        go_simp
        refine (F.modA hn Hmod.out _ (F.keep _ _ hTq hF.cls)).mono ?_
        rintro e w' ⟨rfl, hB⟩
        exact hK _ _ hB rfl
      · obtain rfl := Option.some.inj ho
        have f6 : ac.tmps.getD 6 undef = .pointer (some ⟨bN, 0, none⟩) := slot hF 6 (by kernel_rfl)
        refine ⟨wanted_free rfl, fun K hK => ?_⟩
        exact wp_load_own 22 (.tmp 6) rfl bN f6 (B32 (bdig n)) _ 22 ((hKq.below hF.cls).at bN (B32 (bdig n)) 22 (by simp)) Tryd.underlying22 rfl (B32_info _) (hK _ _ (Below.refl _ _) rfl)
      · obtain rfl := Option.some.inj ho
        have f58 : ac.tmps.getD 58 undef = .agg (B32 (bdig n)) := hF.fact 1 _ _ rfl rfl (dep hd 1 (by kernel_rfl))
        have f59 : ac.tmps.getD 59 undef = .agg (B32 (bdig n)) := hF.fact 2 _ _ rfl rfl (dep hd 2 (by kernel_rfl))
        refine ⟨wanted_free rfl, fun K hK => ?_⟩
        unfold Oper.wp
        go_simp
        exact hK _ _ (Below.refl _ _) rfl
      · obtain rfl := Option.some.inj ho
        have f60 : ac.tmps.getD 60 undef = .bool true := hF.fact 3 _ _ rfl rfl (dep hd 3 (by kernel_rfl))
        refine ⟨wanted_free rfl, fun K hK => ?_⟩
        unfold Oper.wp
        go_simp
        exact hK _ _ (Below.refl _ _) rfl
      · obtain rfl := Option.some.inj ho
        have f6 : ac.tmps.getD 6 undef = .pointer (some ⟨bN, 0, none⟩) := slot hF 6 (by kernel_rfl)
        have fg : ac.tmps.getD 61 undef = .bool true := hF.fact 4 _ _ rfl rfl (dep hd 4 (by kernel_rfl))
        refine ⟨wanted_true (g := 4) rfl rfl rfl fg, fun K hK => ?_⟩
        exact wp_load_own 22 (.tmp 6) rfl bN f6 (B32 (bdig n)) _ 22 ((hKq.below hF.cls).at bN (B32 (bdig n)) 22 (by simp)) Tryd.underlying22 rfl (B32_info _) (hK _ _ (Below.refl _ _) rfl)
      · obtain rfl := Option.some.inj ho
        have f62 : ac.tmps.getD 62 undef = .agg (B32 (bdig n)) := hF.fact 5 _ _ rfl rfl (dep hd 5 (by kernel_rfl))
        have fg : ac.tmps.getD 61 undef = .bool true := hF.fact 4 _ _ rfl rfl (dep hd 4 (by kernel_rfl))
        refine ⟨wanted_true (g := 4) rfl rfl rfl fg, fun K hK => ?_⟩
        unfold Oper.wp
        go_simp
        refine (F.check n hn _ (F.keep _ _ hTq hF.cls)).mono ?_
        rintro e w' ⟨rfl, hB⟩
        rw [decide_eq_true hnp.out]
        exact hK _ _ hB rfl
      · obtain rfl := Option.some.inj ho
        have f61 : ac.tmps.getD 61 undef = .bool true := hF.fact 4 _ _ rfl rfl (dep hd 4 (by kernel_rfl))
        have f63 : ac.tmps.getD 63 undef = .bool true := hF.fact 6 _ _ rfl rfl (dep hd 6 (by kernel_rfl))
        refine ⟨wanted_free rfl, fun K hK => ?_⟩
        unfold Oper.wp
        go_simp
        exact hK _ _ (Below.refl _ _) rfl
      · obtain rfl := Option.some.inj ho
        have f64 : ac.tmps.getD 64 undef = .bool true := hF.fact 7 _ _ rfl rfl (dep hd 7 (by kernel_rfl))
        refine ⟨wanted_free rfl, fun K hK => ?_⟩
        unfold Oper.wp
        go_simp
        exact hK _ _ (Below.refl _ _) rfl
      · obtain rfl := Option.some.inj ho
        have f6 : ac.tmps.getD 6 undef = .pointer (some ⟨bN, 0, none⟩) := slot hF 6 (by kernel_rfl)
        have fg : ac.tmps.getD 65 undef = .bool true := hF.fact 8 _ _ rfl rfl (dep hd 8 (by kernel_rfl))
        refine ⟨wanted_true (g := 8) rfl rfl rfl fg, fun K hK => ?_⟩
        exact wp_load_own 22 (.tmp 6) rfl bN f6 (B32 (bdig n)) _ 22 ((hKq.below hF.cls).at bN (B32 (bdig n)) 22 (by simp)) Tryd.underlying22 rfl (B32_info _) (hK _ _ (Below.refl _ _) rfl)
      · obtain rfl := Option.some.inj ho
        have f0 : ac.tmps.getD 0 undef = .int .i64 (k : Int) := slot hF 0 (by kernel_rfl)
        have fg : ac.tmps.getD 65 undef = .bool true := hF.fact 8 _ _ rfl rfl (dep hd 8 (by kernel_rfl))
        refine ⟨wanted_true (g := 8) rfl rfl rfl fg, fun K hK => ?_⟩
        unfold Oper.wp
        go_simp
        exact hK _ _ (Below.refl _ _) rfl
      · obtain rfl := Option.some.inj ho
        have f67 : ac.tmps.getD 67 undef = .int .i64 (k : Int) := hF.fact 10 _ _ rfl rfl (dep hd 10 (by kernel_rfl))
        have fg : ac.tmps.getD 65 undef = .bool true := hF.fact 8 _ _ rfl rfl (dep hd 8 (by kernel_rfl))
        refine ⟨wanted_true (g := 8) rfl rfl rfl fg, fun K hK => ?_⟩
        unfold Oper.wp
        go_simp
        exact hK _ _ (Below.refl _ _) rfl
      · obtain rfl := Option.some.inj ho
        have f68 : ac.tmps.getD 68 undef = .int .i64 (IntKind.i64.wrap ((k : Int) + 1)) := hF.fact 11 _ _ rfl rfl (dep hd 11 (by kernel_rfl))
        have fg : ac.tmps.getD 65 undef = .bool true := hF.fact 8 _ _ rfl rfl (dep hd 8 (by kernel_rfl))
        refine ⟨wanted_true (g := 8) rfl rfl rfl fg, fun K hK => ?_⟩
        unfold Oper.wp
        go_simp
        rw [wk1.out]
        refine (num_any k1 hk1 _).mono ?_
        rintro e w' ⟨rfl, hB⟩
        exact hK _ _ hB rfl
      · obtain rfl := Option.some.inj ho
        have f66 : ac.tmps.getD 66 undef = .agg (B32 (bdig n)) := hF.fact 9 _ _ rfl rfl (dep hd 9 (by kernel_rfl))
        have f69 : ac.tmps.getD 69 undef = .agg (B32 (bdig k1)) := hF.fact 12 _ _ rfl rfl (dep hd 12 (by kernel_rfl))
        have fg : ac.tmps.getD 65 undef = .bool true := hF.fact 8 _ _ rfl rfl (dep hd 8 (by kernel_rfl))
        refine ⟨wanted_true (g := 8) rfl rfl rfl fg, fun K hK => ?_⟩
        unfold Oper.wp
        go_simp
        refine (F.addA hn (small_R5 hk1) Hadd.out _ (F.keep _ _ hTq hF.cls)).mono ?_
        rintro e w' ⟨rfl, hB⟩
        exact hK _ _ hB rfl
      · obtain rfl := Option.some.inj ho
        have fg : ac.tmps.getD 65 undef = .bool true := hF.fact 8 _ _ rfl rfl (dep hd 8 (by kernel_rfl))
        refine ⟨wanted_true (g := 8) rfl rfl rfl fg, fun K hK => ?_⟩
        unfold Oper.wp
        go_simp
        refine (num_any 0 (by decide) _).mono ?_
        rintro e w' ⟨rfl, hB⟩
        exact hK _ _ hB rfl
      · obtain rfl := Option.some.inj ho
        have f70 : ac.tmps.getD 70 undef = .agg (B32 (bdig 0)) := hF.fact 13 _ _ rfl rfl (dep hd 13 (by kernel_rfl))
        have f71 : ac.tmps.getD 71 undef = .agg (B32 (bdig 0)) := hF.fact 14 _ _ rfl rfl (dep hd 14 (by kernel_rfl))
        have fg : ac.tmps.getD 65 undef = .bool true := hF.fact 8 _ _ rfl rfl (dep hd 8 (by kernel_rfl))
        refine ⟨wanted_true (g := 8) rfl rfl rfl fg, fun K hK => ?_⟩
        unfold Oper.wp
        go_simp
        exact hK _ _ (Below.refl _ _) rfl
      · obtain rfl := Option.some.inj ho
        have f65 : ac.tmps.getD 65 undef = .bool true := hF.fact 8 _ _ rfl rfl (dep hd 8 (by kernel_rfl))
        have f72 : ac.tmps.getD 72 undef = .bool true := hF.fact 15 _ _ rfl rfl (dep hd 15 (by kernel_rfl))
        refine ⟨wanted_free rfl, fun K hK => ?_⟩
        unfold Oper.wp
        go_simp
        exact hK _ _ (Below.refl _ _) rfl
      · obtain rfl := Option.some.inj ho
        have f73 : ac.tmps.getD 73 undef = .bool true := hF.fact 16 _ _ rfl rfl (dep hd 16 (by kernel_rfl))
        refine ⟨wanted_free rfl, fun K hK => ?_⟩
        unfold Oper.wp
        go_simp
        exact hK _ _ (Below.refl _ _) rfl
      · obtain rfl := Option.some.inj ho
        have fg : ac.tmps.getD 74 undef = .bool true := hF.fact 17 _ _ rfl rfl (dep hd 17 (by kernel_rfl))
        refine ⟨wanted_true (g := 17) rfl rfl rfl fg, fun K hK => ?_⟩
        unfold Oper.wp
        go_simp
        refine (wakes_any F _ (F.keep _ _ hTq hF.cls)).mono ?_
        rintro e w' ⟨rfl, hB⟩
        exact hK _ _ hB rfl
      · obtain rfl := Option.some.inj ho
        have f74 : ac.tmps.getD 74 undef = .bool true := hF.fact 17 _ _ rfl rfl (dep hd 17 (by kernel_rfl))
        have f75 : ac.tmps.getD 75 undef = .bool true := hF.fact 18 _ _ rfl rfl (dep hd 18 (by kernel_rfl))
        refine ⟨wanted_free rfl, fun K hK => ?_⟩
        unfold Oper.wp
        go_simp
        exact hK _ _ (Below.refl _ _) rfl
      · obtain rfl := Option.some.inj ho
        have f76 : ac.tmps.getD 76 undef = .bool true := hF.fact 19 _ _ rfl rfl (dep hd 19 (by kernel_rfl))
        refine ⟨wanted_free rfl, fun K hK => ?_⟩
        unfold Oper.wp
        go_simp
        exact hK _ _ (Below.refl _ _) rfl
      · cases ho
    · intro L ac wc hL hF
      have f4 : ac.tmps.getD 4 undef = .bool true := hF.fact 20 _ 4 rfl rfl (hL 20 (by decide))
      have hb' := (hKq.below hF.cls).2
      go_wp2
      exact bodyPost_ret (results_tmp rfl _ _ _) hF.defers ⟨by rw [f4], hb'⟩
  · obtain ⟨n, Hn⟩ : ∃ n, Hid (2 * pp + k = n) := ⟨_, rfl⟩
    have hn : n < R256 := by have := Hn.out; have := pp38; omega
    have Hmod : Hid (n % pp = k) := by show _ = _; rw [← Hn.out, Nat.mul_add_mod']; exact Nat.mod_eq_of_lt (by have := pp20; omega)
    have Hsub : Hid ((n % pp + pp - k % pp) % pp = 0) := sub0 Hmod.out
    have hnp : Hid (¬ n < pp) := by show ¬ _; have := Hn.out; omega
    have same_k := B32_same k (small_R5 hks)
    have same_0 := B32_same 0 (by decide)
    go_wp2_with fail
    refine (bytes_at ((ends2 k hk).trans (congrArg numA Hn.out)) _).mono ?_
    rintro e w5 ⟨rfl, b5⟩
    have hK5 := hK4.below b5
    clear oP c0 c1 c2 c3
    go_upto_region 18 with (refine wpList_store_own (by rfl) 22 (.tmp 6) (.tmp 86) (by rfl) bN 0 (B32 (bdig n)) (by rfl) (by rfl) (hK5.at bN (B32 fun _ => 0) 22 (by simp)) (B32_le _ _) (B32_info _) (B32_one _) (by rfl) ?_)
    have hKq := Kp.set (A' := B32 (bdig n)) (hK5.sub (l' := [(bN, B32 fun _ => 0, 22), (bW, B32 (bdig k), 22), (bP, A, 25)]) (fun p hp => by simp only [List.mem_cons, List.not_mem_nil, or_false] at hp ⊢; rcases hp with h | h | h <;> simp [h])) (by simp; omega) hle (B32_sizes _ _)
    generalize w5.setCells bN 0 (B32 (bdig n)).toList = wq at *
    clear hK5 hK4
    have hTq := F.keep _ _ hT hKq.2
    go_upto_region 18 with fail
    refine wp_region_stable 106 (by kernel_rfl) (by kernel_rfl) (by rfl) (fun i v _ => v = val18 n k i) (fun _ _ _ _ _ h => h) ?_ ?_
    · intro L ac wc i o hF ho hd
      rcases i with _ | _ | _ | _ | _ | _ | _ | _ | _ | _ | _ | _ | _ | _ | _ | _ | _ | _ | _ | _ | i
      · obtain rfl := Option.some.inj ho
        have f6 : ac.tmps.getD 6 undef = .pointer (some ⟨bN, 0, none⟩) := slot hF 6 (by kernel_rfl)
        refine ⟨wanted_free rfl, fun K hK => ?_⟩
        exact wp_load_own 22 (.tmp 6) rfl bN f6 (B32 (bdig n)) _ 22 ((hKq.below hF.cls).at bN (B32 (bdig n)) 22 (by simp)) Tryd.underlying22 rfl (B32_info _) (hK _ _ (Below.refl _ _) rfl)
      · obtain rfl := Option.some.inj ho
        have f87 : ac.tmps.getD 87 undef = .agg (B32 (bdig n)) := hF.fact 0 _ _ rfl rfl (dep hd 0 (by kernel_rfl))
        refine ⟨wanted_free rfl, fun K hK => ?_⟩
        unfold Oper.wp
        go_simp
        refine (F.modA hn Hmod.out _ (F.keep _ _ hTq hF.cls)).mono ?_
        rintro e w' ⟨rfl, hB⟩
        exact hK _ _ hB rfl
      · obtain rfl := Option.some.inj ho
        have f7 : ac.tmps.getD 7 undef = .pointer (some ⟨bW, 0, none⟩) := slot hF 7 (by kernel_rfl)
        refine ⟨wanted_free rfl, fun K hK => ?_⟩
        exact wp_load_own 22 (.tmp 7) rfl bW f7 (B32 (bdig k)) _ 22 ((hKq.below hF.cls).at bW (B32 (bdig k)) 22 (by simp)) Tryd.underlying22 rfl (B32_info _) (hK _ _ (Below.refl _ _) rfl)
      · obtain rfl := Option.some.inj ho
        have f88 : ac.tmps.getD 88 undef = .agg (B32 (bdig k)) := hF.fact 1 _ _ rfl rfl (dep hd 1 (by kernel_rfl))
        have f89 : ac.tmps.getD 89 undef = .agg (B32 (bdig k)) := hF.fact 2 _ _ rfl rfl (dep hd 2 (by kernel_rfl))
        refine ⟨wanted_free rfl, fun K hK => ?_⟩
        unfold Oper.wp
        go_simp
        exact hK _ _ (Below.refl _ _) rfl
      · obtain rfl := Option.some.inj ho
        have f90 : ac.tmps.getD 90 undef = .bool true := hF.fact 3 _ _ rfl rfl (dep hd 3 (by kernel_rfl))
        refine ⟨wanted_free rfl, fun K hK => ?_⟩
        unfold Oper.wp
        go_simp
        exact hK _ _ (Below.refl _ _) rfl
      · obtain rfl := Option.some.inj ho
        have f6 : ac.tmps.getD 6 undef = .pointer (some ⟨bN, 0, none⟩) := slot hF 6 (by kernel_rfl)
        have fg : ac.tmps.getD 91 undef = .bool true := hF.fact 4 _ _ rfl rfl (dep hd 4 (by kernel_rfl))
        refine ⟨wanted_true (g := 4) rfl rfl rfl fg, fun K hK => ?_⟩
        exact wp_load_own 22 (.tmp 6) rfl bN f6 (B32 (bdig n)) _ 22 ((hKq.below hF.cls).at bN (B32 (bdig n)) 22 (by simp)) Tryd.underlying22 rfl (B32_info _) (hK _ _ (Below.refl _ _) rfl)
      · obtain rfl := Option.some.inj ho
        have f92 : ac.tmps.getD 92 undef = .agg (B32 (bdig n)) := hF.fact 5 _ _ rfl rfl (dep hd 5 (by kernel_rfl))
        have fg : ac.tmps.getD 91 undef = .bool true := hF.fact 4 _ _ rfl rfl (dep hd 4 (by kernel_rfl))
        refine ⟨wanted_true (g := 4) rfl rfl rfl fg, fun K hK => ?_⟩
        unfold Oper.wp
        go_simp
        refine (F.check n hn _ (F.keep _ _ hTq hF.cls)).mono ?_
        rintro e w' ⟨rfl, hB⟩
        rw [decide_eq_false hnp.out]
        exact hK _ _ hB rfl
      · obtain rfl := Option.some.inj ho
        have f93 : ac.tmps.getD 93 undef = .bool false := hF.fact 6 _ _ rfl rfl (dep hd 6 (by kernel_rfl))
        have fg : ac.tmps.getD 91 undef = .bool true := hF.fact 4 _ _ rfl rfl (dep hd 4 (by kernel_rfl))
        refine ⟨wanted_true (g := 4) rfl rfl rfl fg, fun K hK => ?_⟩
        unfold Oper.wp
        go_simp
        exact hK _ _ (Below.refl _ _) rfl
      · obtain rfl := Option.some.inj ho
        have f91 : ac.tmps.getD 91 undef = .bool true := hF.fact 4 _ _ rfl rfl (dep hd 4 (by kernel_rfl))
        have f94 : ac.tmps.getD 94 undef = .bool true := hF.fact 7 _ _ rfl rfl (dep hd 7 (by kernel_rfl))
        refine ⟨wanted_free rfl, fun K hK => ?_⟩
        unfold Oper.wp
        go_simp
        exact hK _ _ (Below.refl _ _) rfl
      · obtain rfl := Option.some.inj ho
        have f95 : ac.tmps.getD 95 undef = .bool true := hF.fact 8 _ _ rfl rfl (dep hd 8 (by kernel_rfl))
        refine ⟨wanted_free rfl, fun K hK => ?_⟩
        unfold Oper.wp
        go_simp
        exact hK _ _ (Below.refl _ _) rfl
      · obtain rfl := Option.some.inj ho
        have f6 : ac.tmps.getD 6 undef = .pointer (some ⟨bN, 0, none⟩) := slot hF 6 (by kernel_rfl)
        have fg : ac.tmps.getD 96 undef = .bool true := hF.fact 9 _ _ rfl rfl (dep hd 9 (by kernel_rfl))
        refine ⟨wanted_true (g := 9) rfl rfl rfl fg, fun K hK => ?_⟩
        exact wp_load_own 22 (.tmp 6) rfl bN f6 (B32 (bdig n)) _ 22 ((hKq.below hF.cls).at bN (B32 (bdig n)) 22 (by simp)) Tryd.underlying22 rfl (B32_info _) (hK _ _ (Below.refl _ _) rfl)
      · obtain rfl := Option.some.inj ho
        have f7 : ac.tmps.getD 7 undef = .pointer (some ⟨bW, 0, none⟩) := slot hF 7 (by kernel_rfl)
        have fg : ac.tmps.getD 96 undef = .bool true := hF.fact 9 _ _ rfl rfl (dep hd 9 (by kernel_rfl))
        refine ⟨wanted_true (g := 9) rfl rfl rfl fg, fun K hK => ?_⟩
        exact wp_load_own 22 (.tmp 7) rfl bW f7 (B32 (bdig k)) _ 22 ((hKq.below hF.cls).at bW (B32 (bdig k)) 22 (by simp)) Tryd.underlying22 rfl (B32_info _) (hK _ _ (Below.refl _ _) rfl)
      · obtain rfl := Option.some.inj ho
        have f97 : ac.tmps.getD 97 undef = .agg (B32 (bdig n)) := hF.fact 10 _ _ rfl rfl (dep hd 10 (by kernel_rfl))
        have f98 : ac.tmps.getD 98 undef = .agg (B32 (bdig k)) := hF.fact 11 _ _ rfl rfl (dep hd 11 (by kernel_rfl))
        have fg : ac.tmps.getD 96 undef = .bool true := hF.fact 9 _ _ rfl rfl (dep hd 9 (by kernel_rfl))
        refine ⟨wanted_true (g := 9) rfl rfl rfl fg, fun K hK => ?_⟩
        unfold Oper.wp
        go_simp
        refine (F.subA hn (small_R5 hks) Hsub.out _ (F.keep _ _ hTq hF.cls)).mono ?_
        rintro e w' ⟨rfl, hB⟩
        exact hK _ _ hB rfl
      · obtain rfl := Option.some.inj ho
        have fg : ac.tmps.getD 96 undef = .bool true := hF.fact 9 _ _ rfl rfl (dep hd 9 (by kernel_rfl))
        refine ⟨wanted_true (g := 9) rfl rfl rfl fg, fun K hK => ?_⟩
        unfold Oper.wp
        go_simp
        refine (num_any 0 (by decide) _).mono ?_
        rintro e w' ⟨rfl, hB⟩
        exact hK _ _ hB rfl
      · obtain rfl := Option.some.inj ho
        have f99 : ac.tmps.getD 99 undef = .agg (B32 (bdig 0)) := hF.fact 12 _ _ rfl rfl (dep hd 12 (by kernel_rfl))
        have f100 : ac.tmps.getD 100 undef = .agg (B32 (bdig 0)) := hF.fact 13 _ _ rfl rfl (dep hd 13 (by kernel_rfl))
        have fg : ac.tmps.getD 96 undef = .bool true := hF.fact 9 _ _ rfl rfl (dep hd 9 (by kernel_rfl))
        refine ⟨wanted_true (g := 9) rfl rfl rfl fg, fun K hK => ?_⟩
        unfold Oper.wp
        go_simp
        exact hK _ _ (Below.refl _ _) rfl
      · obtain rfl := Option.some.inj ho
        have f96 : ac.tmps.getD 96 undef = .bool true := hF.fact 9 _ _ rfl rfl (dep hd 9 (by kernel_rfl))
        have f101 : ac.tmps.getD 101 undef = .bool true := hF.fact 14 _ _ rfl rfl (dep hd 14 (by kernel_rfl))
        refine ⟨wanted_free rfl, fun K hK => ?_⟩
        unfold Oper.wp
        go_simp
        exact hK _ _ (Below.refl _ _) rfl
      · obtain rfl := Option.some.inj ho
        have f102 : ac.tmps.getD 102 undef = .bool true := hF.fact 15 _ _ rfl rfl (dep hd 15 (by kernel_rfl))
        refine ⟨wanted_free rfl, fun K hK => ?_⟩
        unfold Oper.wp
        go_simp
        exact hK _ _ (Below.refl _ _) rfl
      · obtain rfl := Option.some.inj ho
        have fg : ac.tmps.getD 103 undef = .bool true := hF.fact 16 _ _ rfl rfl (dep hd 16 (by kernel_rfl))
        refine ⟨wanted_true (g := 16) rfl rfl rfl fg, fun K hK => ?_⟩
        unfold Oper.wp
        go_simp
        refine (wakes_any F _ (F.keep _ _ hTq hF.cls)).mono ?_
        rintro e w' ⟨rfl, hB⟩
        exact hK _ _ hB rfl
      · obtain rfl := Option.some.inj ho
        have f103 : ac.tmps.getD 103 undef = .bool true := hF.fact 16 _ _ rfl rfl (dep hd 16 (by kernel_rfl))
        have f104 : ac.tmps.getD 104 undef = .bool true := hF.fact 17 _ _ rfl rfl (dep hd 17 (by kernel_rfl))
        refine ⟨wanted_free rfl, fun K hK => ?_⟩
        unfold Oper.wp
        go_simp
        exact hK _ _ (Below.refl _ _) rfl
      · obtain rfl := Option.some.inj ho
        have f105 : ac.tmps.getD 105 undef = .bool true := hF.fact 18 _ _ rfl rfl (dep hd 18 (by kernel_rfl))
        refine ⟨wanted_free rfl, fun K hK => ?_⟩
        unfold Oper.wp
        go_simp
        exact hK _ _ (Below.refl _ _) rfl
      · cases ho
    · intro L ac wc hL hF
      have f4 : ac.tmps.getD 4 undef = .bool true := hF.fact 19 _ 4 rfl rfl (hL 19 (by decide))
      have hb' := (hKq.below hF.cls).2
      go_wp2
      exact bodyPost_ret (results_tmp rfl _ _ _) hF.defers ⟨by rw [f4], hb'⟩
  · clear oP c0 c1 c2 c3
    obtain ⟨n, Hn⟩ : ∃ n, Hid (R256 - 1 = n) := ⟨_, rfl⟩
    have hn : n < R256 := by rw [← Hn.out]; decide
    have Hmod : Hid (n % pp = 37) := by show _ = _; rw [← Hn.out]; decide +kernel
    have Hsub : Hid ((n % pp + pp - 37 % pp) % pp = 0) := sub0 Hmod.out
    have hnp : Hid (¬ n < pp) := by show ¬ _; rw [← Hn.out]; decide +kernel
    have Hb : Hid (∀ j, j < 32 → bdig n j = 255) := by show ∀ _, _; rw [← Hn.out]; exact top_bytes
    have same_k := B32_same 37 (by decide)
    have same_0 := B32_same 0 (by decide)
    have hK5 := hK4.sub (l' := [(bN, B32 fun _ => 0, 22), (bW, B32 (bdig k), 22), (bP, A, 25)]) (fun p hp => by simp only [List.mem_cons, List.not_mem_nil, or_false] at hp ⊢; rcases hp with h | h | h <;> simp [h])
    go_wp2_with fail
    go_loopw [8] (fun ii wr => ∃ (q : Nat) (h : Nat → Nat), q ≤ 32 ∧ ii = .int .i64 (q : Int) ∧ (∀ j, j < q → h j = 255) ∧ Kp [(bN, B32 h, 22), (bW, B32 (bdig k), 22), (bP, A, 25)] w wr) (fun ii _ => 32 - (intOf ii).toNat)
    case atStart => exact ⟨0, fun _ => 0, by omega, rfl, fun j hj => by omega, hK5⟩
    case round =>
      obtain ⟨q, h, hq, rfl, hh, hKr⟩ := hrel
      have hq0 : (0 : Int) ≤ (q : Int) := by omega
      by_cases hlt : q < 32
      · have hqi : (q : Int) < 32 := by omega
        have cO := (hKr.at bN (B32 h) 22 (by simp)).cell (B32_at h q (by omega))
        have fO := (hKr.at bN (B32 h) 22 (by simp)).frozen q
        go_wp2_with fail
        have hK6 := Kp.setCell (i := q) (v := .int .u8 255) hKr (by simp; omega) hle
        rw [show (255 : Int) = ((255 : Nat) : Int) from rfl, B32_set h q 255 (by omega)] at hK6
        refine ⟨⟨q + 1, upd h q 255, by omega, by go_num, fun j hj => ?_, hK6⟩, by simp [intOf]; omega⟩
        by_cases e : j = q
        · rw [e, upd_same]
        · rw [upd_other _ _ _ _ e]; exact hh j (by omega)
      · have hqi : ¬ (q : Int) < 32 := by omega
        have He : B32 h = B32 (bdig n) := B32_ext fun i hi => by rw [hh i (by omega), Hb.out i hi]
        rw [He] at hKr
        clear He hh hK5 hK4
        go_wp2_with fail
        refine (num_any 37 (by decide) _).mono ?_
        rintro e w6 ⟨rfl, b6⟩
        have hK6 := hKr.below b6
        go_upto_region 18 with (refine wpList_store_own (by rfl) 22 (.tmp 7) (.tmp 25) (by rfl) bW 0 (B32 (bdig 37)) (by rfl) (by rfl) (hK6.at bW (B32 (bdig k)) 22 (by simp)) (B32_le _ _) (B32_info _) (B32_one _) (by rfl) ?_)
        have hKq := Kp.set (A' := B32 (bdig 37)) (hK6.sub (l' := [(bW, B32 (bdig k), 22), (bN, B32 (bdig n), 22), (bP, A, 25)]) (fun p hp => by simp only [List.mem_cons, List.not_mem_nil, or_false] at hp ⊢; rcases hp with h | h | h <;> simp [h])) (by simp; omega) (by omega) (B32_sizes _ _)
        generalize w6.setCells bW 0 (B32 (bdig 37)).toList = wq at *
        clear hK6 hKr
        have hTq := F.keep _ _ hT hKq.2
        go_upto_region 18 with fail
        refine wp_region_stable 106 (by kernel_rfl) (by kernel_rfl) (by rfl) (fun i v _ => v = val18 n 37 i) (fun _ _ _ _ _ h => h) ?_ ?_
        · intro L ac wc i o hF ho hd
          rcases i with _ | _ | _ | _ | _ | _ | _ | _ | _ | _ | _ | _ | _ | _ | _ | _ | _ | _ | _ | _ | i
          · obtain rfl := Option.some.inj ho
            have f6 : ac.tmps.getD 6 undef = .pointer (some ⟨bN, 0, none⟩) := slot hF 6 (by kernel_rfl)
            refine ⟨wanted_free rfl, fun K hK => ?_⟩
            exact wp_load_own 22 (.tmp 6) rfl bN f6 (B32 (bdig n)) _ 22 ((hKq.below hF.cls).at bN (B32 (bdig n)) 22 (by simp)) Tryd.underlying22 rfl (B32_info _) (hK _ _ (Below.refl _ _) rfl)
          · obtain rfl := Option.some.inj ho
            have f87 : ac.tmps.getD 87 undef = .agg (B32 (bdig n)) := hF.fact 0 _ _ rfl rfl (dep hd 0 (by kernel_rfl))
            refine ⟨wanted_free rfl, fun K hK => ?_⟩
            unfold Oper.wp
            go_simp
            refine (F.modA hn Hmod.out _ (F.keep _ _ hTq hF.cls)).mono ?_
            rintro e w' ⟨rfl, hB⟩
            exact hK _ _ hB rfl
          · obtain rfl := Option.some.inj ho
            have f7 : ac.tmps.getD 7 undef = .pointer (some ⟨bW, 0, none⟩) := slot hF 7 (by kernel_rfl)
            refine ⟨wanted_free rfl, fun K hK => ?_⟩
            exact wp_load_own 22 (.tmp 7) rfl bW f7 (B32 (bdig 37)) _ 22 ((hKq.below hF.cls).at bW (B32 (bdig 37)) 22 (by simp)) Tryd.underlying22 rfl (B32_info _) (hK _ _ (Below.refl _ _) rfl)
          · obtain rfl := Option.some.inj ho
            have f88 : ac.tmps.getD 88 undef = .agg (B32 (bdig 37)) := hF.fact 1 _ _ rfl rfl (dep hd 1 (by kernel_rfl))
            have f89 : ac.tmps.getD 89 undef = .agg (B32 (bdig 37)) := hF.fact 2 _ _ rfl rfl (dep hd 2 (by kernel_rfl))
            refine ⟨wanted_free rfl, fun K hK => ?_⟩
            unfold Oper.wp
            go_simp
            exact hK _ _ (Below.refl _ _) rfl
          · obtain rfl := Option.some.inj ho
            have f90 : ac.tmps.getD 90 undef = .bool true := hF.fact 3 _ _ rfl rfl (dep hd 3 (by kernel_rfl))
            refine ⟨wanted_free rfl, fun K hK => ?_⟩
            unfold Oper.wp
            go_simp
            exact hK _ _ (Below.refl _ _) rfl
          · obtain rfl := Option.some.inj ho
            have f6 : ac.tmps.getD 6 undef = .pointer (some ⟨bN, 0, none⟩) := slot hF 6 (by kernel_rfl)
            have fg : ac.tmps.getD 91 undef = .bool true := hF.fact 4 _ _ rfl rfl (dep hd 4 (by kernel_rfl))
            refine ⟨wanted_true (g := 4) rfl rfl rfl fg, fun K hK => ?_⟩
            exact wp_load_own 22 (.tmp 6) rfl bN f6 (B32 (bdig n)) _ 22 ((hKq.below hF.cls).at bN (B32 (bdig n)) 22 (by simp)) Tryd.underlying22 rfl (B32_info _) (hK _ _ (Below.refl _ _) rfl)
          · obtain rfl := Option.some.inj ho
            have f92 : ac.tmps.getD 92 undef = .agg (B32 (bdig n)) := hF.fact 5 _ _ rfl rfl (dep hd 5 (by kernel_rfl))
            have fg : ac.tmps.getD 91 undef = .bool true := hF.fact 4 _ _ rfl rfl (dep hd 4 (by kernel_rfl))
            refine ⟨wanted_true (g := 4) rfl rfl rfl fg, fun K hK => ?_⟩
            unfold Oper.wp
            go_simp
            refine (F.check n hn _ (F.keep _ _ hTq hF.cls)).mono ?_
            rintro e w' ⟨rfl, hB⟩
            rw [decide_eq_false hnp.out]
            exact hK _ _ hB rfl
          · obtain rfl := Option.some.inj ho
            have f93 : ac.tmps.getD 93 undef = .bool false := hF.fact 6 _ _ rfl rfl (dep hd 6 (by kernel_rfl))
            have fg : ac.tmps.getD 91 undef = .bool true := hF.fact 4 _ _ rfl rfl (dep hd 4 (by kernel_rfl))
            refine ⟨wanted_true (g := 4) rfl rfl rfl fg, fun K hK => ?_⟩
            unfold Oper.wp
            go_simp
            exact hK _ _ (Below.refl _ _) rfl
          · obtain rfl := Option.some.inj ho
            have f91 : ac.tmps.getD 91 undef = .bool true := hF.fact 4 _ _ rfl rfl (dep hd 4 (by kernel_rfl))
            have f94 : ac.tmps.getD 94 undef = .bool true := hF.fact 7 _ _ rfl rfl (dep hd 7 (by kernel_rfl))
            refine ⟨wanted_free rfl, fun K hK => ?_⟩
            unfold Oper.wp
            go_simp
            exact hK _ _ (Below.refl _ _) rfl
          · obtain rfl := Option.some.inj ho
            have f95 : ac.tmps.getD 95 undef = .bool true := hF.fact 8 _ _ rfl rfl (dep hd 8 (by kernel_rfl))
            refine ⟨wanted_free rfl, fun K hK => ?_⟩
            unfold Oper.wp
            go_simp
            exact hK _ _ (Below.refl _ _) rfl
          · obtain rfl := Option.some.inj ho
            have f6 : ac.tmps.getD 6 undef = .pointer (some ⟨bN, 0, none⟩) := slot hF 6 (by kernel_rfl)
            have fg : ac.tmps.getD 96 undef = .bool true := hF.fact 9 _ _ rfl rfl (dep hd 9 (by kernel_rfl))
            refine ⟨wanted_true (g := 9) rfl rfl rfl fg, fun K hK => ?_⟩
            exact wp_load_own 22 (.tmp 6) rfl bN f6 (B32 (bdig n)) _ 22 ((hKq.below hF.cls).at bN (B32 (bdig n)) 22 (by simp)) Tryd.underlying22 rfl (B32_info _) (hK _ _ (Below.refl _ _) rfl)
          · obtain rfl := Option.some.inj ho
            have f7 : ac.tmps.getD 7 undef = .pointer (some ⟨bW, 0, none⟩) := slot hF 7 (by kernel_rfl)
            have fg : ac.tmps.getD 96 undef = .bool true := hF.fact 9 _ _ rfl rfl (dep hd 9 (by kernel_rfl))
            refine ⟨wanted_true (g := 9) rfl rfl rfl fg, fun K hK => ?_⟩
            exact wp_load_own 22 (.tmp 7) rfl bW f7 (B32 (bdig 37)) _ 22 ((hKq.below hF.cls).at bW (B32 (bdig 37)) 22 (by simp)) Tryd.underlying22 rfl (B32_info _) (hK _ _ (Below.refl _ _) rfl)
          · obtain rfl := Option.some.inj ho
            have f97 : ac.tmps.getD 97 undef = .agg (B32 (bdig n)) := hF.fact 10 _ _ rfl rfl (dep hd 10 (by kernel_rfl))
            have f98 : ac.tmps.getD 98 undef = .agg (B32 (bdig 37)) := hF.fact 11 _ _ rfl rfl (dep hd 11 (by kernel_rfl))
            have fg : ac.tmps.getD 96 undef = .bool true := hF.fact 9 _ _ rfl rfl (dep hd 9 (by kernel_rfl))
            refine ⟨wanted_true (g := 9) rfl rfl rfl fg, fun K hK => ?_⟩
            unfold Oper.wp
            go_simp
            refine (F.subA hn (by decide) Hsub.out _ (F.keep _ _ hTq hF.cls)).mono ?_
            rintro e w' ⟨rfl, hB⟩
            exact hK _ _ hB rfl
          · obtain rfl := Option.some.inj ho
            have fg : ac.tmps.getD 96 undef = .bool true := hF.fact 9 _ _ rfl rfl (dep hd 9 (by kernel_rfl))
            refine ⟨wanted_true (g := 9) rfl rfl rfl fg, fun K hK => ?_⟩
            unfold Oper.wp
            go_simp
            refine (num_any 0 (by decide) _).mono ?_
            rintro e w' ⟨rfl, hB⟩
            exact hK _ _ hB rfl
          · obtain rfl := Option.some.inj ho
            have f99 : ac.tmps.getD 99 undef = .agg (B32 (bdig 0)) := hF.fact 12 _ _ rfl rfl (dep hd 12 (by kernel_rfl))
            have f100 : ac.tmps.getD 100 undef = .agg (B32 (bdig 0)) := hF.fact 13 _ _ rfl rfl (dep hd 13 (by kernel_rfl))
            have fg : ac.tmps.getD 96 undef = .bool true := hF.fact 9 _ _ rfl rfl (dep hd 9 (by kernel_rfl))
            refine ⟨wanted_true (g := 9) rfl rfl rfl fg, fun K hK => ?_⟩
            unfold Oper.wp
            go_simp
            exact hK _ _ (Below.refl _ _) rfl
          · obtain rfl := Option.some.inj ho
            have f96 : ac.tmps.getD 96 undef = .bool true := hF.fact 9 _ _ rfl rfl (dep hd 9 (by kernel_rfl))
            have f101 : ac.tmps.getD 101 undef = .bool true := hF.fact 14 _ _ rfl rfl (dep hd 14 (by kernel_rfl))
            refine ⟨wanted_free rfl, fun K hK => ?_⟩
            unfold Oper.wp
            go_simp
            exact hK _ _ (Below.refl _ _) rfl
          · obtain rfl := Option.some.inj ho
            have f102 : ac.tmps.getD 102 undef = .bool true := hF.fact 15 _ _ rfl rfl (dep hd 15 (by kernel_rfl))
            refine ⟨wanted_free rfl, fun K hK => ?_⟩
            unfold Oper.wp
            go_simp
            exact hK _ _ (Below.refl _ _) rfl
          · obtain rfl := Option.some.inj ho
            have fg : ac.tmps.getD 103 undef = .bool true := hF.fact 16 _ _ rfl rfl (dep hd 16 (by kernel_rfl))
            refine ⟨wanted_true (g := 16) rfl rfl rfl fg, fun K hK => ?_⟩
            unfold Oper.wp
            go_simp
            refine (wakes_any F _ (F.keep _ _ hTq hF.cls)).mono ?_
            rintro e w' ⟨rfl, hB⟩
            exact hK _ _ hB rfl
          · obtain rfl := Option.some.inj ho
            have f103 : ac.tmps.getD 103 undef = .bool true := hF.fact 16 _ _ rfl rfl (dep hd 16 (by kernel_rfl))
            have f104 : ac.tmps.getD 104 undef = .bool true := hF.fact 17 _ _ rfl rfl (dep hd 17 (by kernel_rfl))
            refine ⟨wanted_free rfl, fun K hK => ?_⟩
            unfold Oper.wp
            go_simp
            exact hK _ _ (Below.refl _ _) rfl
          · obtain rfl := Option.some.inj ho
            have f105 : ac.tmps.getD 105 undef = .bool true := hF.fact 18 _ _ rfl rfl (dep hd 18 (by kernel_rfl))
            refine ⟨wanted_free rfl, fun K hK => ?_⟩
            unfold Oper.wp
            go_simp
            exact hK _ _ (Below.refl _ _) rfl
          · cases ho
        · intro L ac wc hL hF
          have f4 : ac.tmps.getD 4 undef = .bool true := hF.fact 19 _ 4 rfl rfl (hL 19 (by decide))
          have hb' := (hKq.below hF.cls).2
          go_wp2
          exact bodyPost_ret (results_tmp rfl _ _ _) hF.defers ⟨by rw [f4], hb'⟩
end Go.Proofs.YtaefjbklioljnaaDoor
