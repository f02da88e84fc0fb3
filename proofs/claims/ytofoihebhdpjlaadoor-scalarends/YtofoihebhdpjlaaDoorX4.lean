/- The walk of the law ScalarEnds, over the program's functions by their contracts. -/
import Derived.Test.YtofoihebhdpjlaaDoorS3
namespace Go.Proofs.YtofoihebhdpjlaaDoor
open Go.RowKit
theorem rem5 (a : Int) (q : Nat) (z : Int) (hz : z = (q : Int)) (hq : 0 < q) (hq' : q < 10000) : ∃ k : Nat, k < q ∧ (IntKind.u64.wrap a).tmod z = (k : Int) ∧ wrap64 ((IntKind.u64.wrap a).tmod z) = (k : Int) := by
  have hw := IntKind.wrap_u64 a
  have h0 : 0 ≤ IntKind.u64.wrap a := by rw [hw]; omega
  generalize IntKind.u64.wrap a = x at *
  rw [Int.tmod_eq_emod_of_nonneg h0, hz]
  have h1 := Int.emod_nonneg x (show (q : Int) ≠ 0 by omega)
  have h2 := Int.emod_lt_of_pos x (show (0 : Int) < (q : Int) by omega)
  refine ⟨(x % (q : Int)).toNat, by omega, by omega, ?_⟩
  generalize x % (q : Int) = y at *
  rw [IntWalk.wrap64_in y (by omega)]
  omega
theorem small_R6 {n : Nat} (h : n < 9223372036854775808) : n < R256 := Nat.lt_trans h (by decide)
theorem ends_step {h : Nat → Nat} {i c m k t V x : Nat} (e : vb h i + 256 ^ i * c = k + t * V) (hm : t * x = m) : vb (upd h i ((c + m) % 256)) (i + 1) + 256 ^ (i + 1) * ((c + m) / 256) = k + t * (V + x * 256 ^ i) := by
  rw [vb, vb_upd h i _ i (Nat.le_refl _), upd_same, Nat.pow_succ, Nat.mul_assoc, Nat.mul_comm ((c + m) % 256), Nat.add_assoc, ← Nat.mul_add, Nat.mod_add_div, Nat.mul_add, ← Nat.add_assoc, e, Nat.mul_add, ← Nat.mul_assoc t x, hm, Nat.mul_comm m, Nat.add_assoc]
theorem ends_room {k t : Nat} (hk : k < 1000) (ht : t < 15) : k + t * LL < R256 := by
  have h1 : t * LL ≤ 14 * LL := Nat.mul_le_mul_right _ (by omega)
  have h2 : 14 * LL + 1000 < R256 := by decide
  omega
theorem ends_last {s c v R : Nat} (hR : R256 = R) (hv : v < R256) (e : s + R * c = v) : s = v := by
  rcases Nat.eq_zero_or_pos c with rfl | hc
  · omega
  · have : R * 1 ≤ R * c := Nat.mul_le_mul_left _ hc
    omega
theorem ends_mod {k t : Nat} (hk : k < 1000) : (k + t * LL) % LL = k := by rw [Nat.add_mul_mod_self_right]; exact Nat.mod_eq_of_lt (Nat.lt_trans hk (by decide))
theorem ends_more {k t : Nat} (ht : 0 < t) : ¬ k + t * LL < LL := by
  have : 1 * LL ≤ t * LL := Nat.mul_le_mul_right _ ht
  omega
theorem LLk : 1000 < LL := by decide
def valEt (k l s : Nat) : Nat → Value
  | 0 => .agg (B32 (bdig s))
  | 1 => .agg (B32 (bdig k))
  | 2 => .func (Fn.func 17) #[] #[]
  | 3 => .int .i64 ((k : Int))
  | 4 => .agg (B32 (bdig k))
  | 7 => .agg (B32 (bdig s))
  | 9 => .int .i64 (0)
  | 14 => .func (Fn.func 17) #[] #[]
  | 15 => .int .i64 (0)
  | 16 => .agg (B32 (bdig 0))
  | 17 => .agg (B32 (bdig l))
  | 18 => .func (Fn.func 17) #[] #[]
  | 19 => .int .i64 ((k : Int))
  | 20 => .agg (B32 (bdig k))
  | 21 => .agg (B32 (bdig k))
  | 22 => .func (Fn.func 17) #[] #[]
  | 23 => .int .i64 ((k : Int))
  | 24 => .agg (B32 (bdig k))
  | _ => .bool true
def valEf (k t l s : Nat) : Nat → Value
  | 0 => .agg (B32 (bdig s))
  | 1 => .agg (B32 (bdig k))
  | 2 => .func (Fn.func 17) #[] #[]
  | 3 => .int .i64 ((k : Int))
  | 4 => .agg (B32 (bdig k))
  | 7 => .agg (B32 (bdig s))
  | 8 => .bool false
  | 9 => .int .i64 ((t : Int))
  | 10 => .bool false
  | 14 => .func (Fn.func 17) #[] #[]
  | 15 => .int .i64 ((t : Int))
  | 16 => .agg (B32 (bdig t))
  | 17 => .agg (B32 (bdig l))
  | 18 => .func (Fn.func 17) #[] #[]
  | 19 => .int .i64 ((k : Int))
  | 20 => .agg (B32 (bdig k))
  | 21 => .agg (B32 (bdig k))
  | 22 => .func (Fn.func 17) #[] #[]
  | 23 => .int .i64 ((k : Int))
  | 24 => .agg (B32 (bdig k))
  | _ => .bool true

set_option maxRecDepth 100000 in
set_option maxHeartbeats 16000000 in
theorem sends_any {T : World → Prop} (F : Scl T) (a b : Int) (w : World) (hT : T w) : Calls Tryd.prog 6 #[.int .i64 a, .int .i64 b] w fun x w' => x = .returned (.bool true) ∧ Below w.heap.size w w' := by
  have hz := (zero_of_info zeroB32).1
  obtain ⟨k, hk, ek1, ek2⟩ := rem5 a 1000 1000 rfl (by decide) (by decide)
  obtain ⟨t, ht, et1, et2⟩ := rem5 b 15 15 rfl (by decide) (by decide)
  have hks : k < 9223372036854775808 := by omega
  have hts : t < 9223372036854775808 := by omega
  obtain ⟨l, Hl⟩ : ∃ l, Hid (LL = l) := ⟨_, rfl⟩
  have hl : l < R256 := by rw [← Hl.out]; exact LL_lt
  have same_k := B32_same k (small_R6 hks)
  go_enter Tryd.func6, Tryd.ntmps6
  go_wp2_with fail
  refine (L_any _).mono ?_
  rintro e w1 ⟨rfl, b1⟩
  rw [Hl.out]
  go_wp2_with fail
  refine (bytesOf_any l _).mono ?_
  rintro e w2 ⟨rfl, b2⟩
  have hK := (Kp.nil w).below (bel b1 b2)
  go_upto_region 4 with (refine wpList_store_new (by rfl) 22 (.tmp 6) (.tmp 19) (by rfl) _ (B32 (bdig l)) (by rfl) (by rfl) (B32_info _) (B32_sizes _ _) (B32_one _) (by rfl) ?_)
  have hK := hK.alloc (B32 (bdig l)) 22
  generalize w2.alloc (.cells (B32 (bdig l)) 22) = w3 at *
  generalize w2.heap.size = bL at *
  go_upto_region 5 with fail
  have hK4 := hK.alloc (B32 fun _ => 0) 22
  have hle := hK.2.size
  have m1 := hK.h1.lt
  generalize w3.alloc (.cells (B32 fun _ => 0) 22) = w4 at *
  generalize w3.heap.size = bB at *
  have hnot : ∀ q ∈ [(bL, B32 (bdig l), 22)], q.1 ≠ bB := by simp; omega
  clear hK m1
  go_wp2_with fail
  go_loopw [9, 8] (fun ii cc wr => ∃ (i c : Nat) (h : Nat → Nat), i ≤ 32 ∧ ii = .int .i64 (i : Int) ∧ cc = .int .i64 (c : Int) ∧ c < 4096 ∧ Hid ((∀ j, j < i → h j < 256) ∧ vb h i + 256 ^ i * c = k + t * vb (bdig l) i) ∧ Kp [(bB, B32 h, 22), (bL, B32 (bdig l), 22)] w wr) (fun ii _ _ => 32 - (intOf ii).toNat)
  case atStart => exact ⟨0, k, fun _ => 0, by omega, rfl, rfl, by omega, ⟨fun j hj => by omega, by simp [vb]⟩, hK4⟩
  case round =>
    obtain ⟨i, c, h, hi, rfl, rfl, hc, He, hKr⟩ := hrel
    have hi0 : (0 : Int) ≤ (i : Int) := by omega
    by_cases hlt : i < 32
    · have hii : (i : Int) < 32 := by omega
      have cL := hKr.h2.cell (B32_at (bdig l) i hlt)
      have cB := hKr.h1.cell (B32_at h i hlt)
      have fB := hKr.h1.frozen i
      have hx := bdig_lt l i
      obtain ⟨m, Hm⟩ : ∃ m, Hid (t * bdig l i = m) := ⟨_, rfl⟩
      have hm : m ≤ 14 * 255 := by rw [← Hm.out]; exact Nat.mul_le_mul (by omega) (by omega)
      have Hst := show Hid _ from ends_step He.out.2 Hm.out
      have hK5 := Kp.setCell (i := i) (v := .int .u8 (((c + m) % 256 : Nat) : Int)) hKr hnot hle
      rw [B32_set h i _ hlt] at hK5
      have HK5 := show Hid _ from hK5
      have Hup : Hid (∀ j, j < i + 1 → upd h i ((c + m) % 256) j < 256) := fun j hj => by
        by_cases e : j = i
        · rw [e, upd_same]; omega
        · rw [upd_other _ _ _ _ e]; exact He.out.1 j (by omega)
      clear hK5
      have wm : IntKind.i64.wrap ((t : Int) * (bdig l i : Int)) = (m : Int) := by
        rw [show (t : Int) * (bdig l i : Int) = (m : Int) by rw [← Hm.out]; push_cast; rfl, IntKind.wrap_i64]; omega
      generalize hGG : upd h i ((c + m) % 256) = h' at HK5 Hup Hst
      have hc' : (c + m) / 256 < 4096 := by omega
      clear hGG
      obtain ⟨x, Hx⟩ : ∃ x, Hid (bdig l i = x) := ⟨_, rfl⟩
      rw [Hx.out] at cL wm hx
      have hx0 : (0 : Int) ≤ (x : Int) := by omega
      have hx1 : (x : Int) < 256 := by omega
      go_upto_region 10 with fail
      rw [show (c : Int) + (m : Int) = ((c + m : Nat) : Int) from (Int.natCast_add c m).symm]
      have hu : c + m < 8192 := by omega
      generalize c + m = u at *
      have Hb : Hid ((u : Int) % 256 = ((u % 256 : Nat) : Int)) := by show _ = _; omega
      have Hq : Hid ((u : Int) / 256 = ((u / 256 : Nat) : Int)) := by show _ = _; omega
      have hu0 : (0 : Int) ≤ (u : Int) := by omega
      go_wp2_with fail
      rw [Hb.out, Hq.out]
      refine ⟨⟨i + 1, u / 256, h', by omega, by go_num, rfl, hc', ⟨Hup.out, ?_⟩, HK5.out⟩, by simp [intOf]; omega⟩
      exact Hst.out
    · have hii : ¬ (i : Int) < 32 := by omega
      have hroom := ends_room hk ht
      have hmod := ends_mod (t := t) hk
      obtain ⟨s, Hs⟩ : ∃ s, Hid (k + t * LL = s) := ⟨_, rfl⟩
      rw [Hs.out] at hroom hmod
      have hs : s < R256 := hroom
      have Hmod : Hid (s % LL = k) := hmod
      have Hh : Hid (B32 h = B32 (bdig s)) := by
        obtain ⟨h1, h2⟩ := He.out
        rw [show i = 32 by omega] at h1 h2
        rw [vb_num l hl, ← Hl.out, Hs.out] at h2
        obtain ⟨R, HR⟩ : ∃ R, Hid (R256 = R) := ⟨_, rfl⟩
        rw [show (256 : Nat) ^ 32 = R256 by decide, HR.out] at h2
        have e := ends_last HR.out hs h2
        exact B32_ext fun j hj => by rw [← e]; exact (bdig_vb h 32 h1 j hj).symm
      have Hma : Hid ((t * l + k) % LL = k) := by show _ = _; rw [← Hl.out, Nat.add_comm, Hs.out]; exact hmod
      have hKq := hKr
      rw [Hh.out] at hKq
      clear hmod hroom hK4 hKr He
      have hTq := F.keep _ _ hT hKq.2
      rcases Nat.eq_zero_or_pos t with rfl | htp
      · have Hchk : Hid (decide (s < LL) = true) := by
          show _ = _
          have := LLk
          exact decide_eq_true (by rw [← Hs.out, Nat.zero_mul]; omega)
        rw [show ((0 : Nat) : Int) = 0 from rfl] at *
        go_upto_region 12 with fail
        refine wp_region_stable 69 (by kernel_rfl) (by kernel_rfl) (by rfl) (fun i vv _ => vv = valEt k l s i) (fun _ _ _ _ _ h => h) ?_ ?_
        · intro L ac wc i o hF ho hd
          rcases i with _ | _ | _ | _ | _ | _ | _ | _ | _ | _ | _ | _ | _ | _ | _ | _ | _ | _ | _ | _ | _ | _ | _ | _ | _ | _ | _ | _ | _ | _ | _ | i
          · obtain rfl := Option.some.inj ho
            have f7 : ac.tmps.getD 7 undef = .pointer (some ⟨bB, 0, none⟩) := slot hF 7 (by kernel_rfl)
            refine ⟨wanted_free rfl, fun K hK => ?_⟩
            exact wp_load_own 22 (.tmp 7) rfl bB f7 (B32 (bdig s)) _ 22 ((hKq.below hF.cls).at bB (B32 (bdig s)) 22 (by simp)) Tryd.underlying22 rfl (B32_info _) (hK _ _ (Below.refl _ _) rfl)
          · obtain rfl := Option.some.inj ho
            have f39 : ac.tmps.getD 39 undef = .agg (B32 (bdig s)) := hF.fact 0 _ _ rfl rfl (dep hd 0 (by kernel_rfl))
            refine ⟨wanted_free rfl, fun K hK => ?_⟩
            unfold Oper.wp
            go_simp
            refine (F.modA hs Hmod.out _ (F.keep _ _ hTq hF.cls)).mono ?_
            rintro e w' ⟨rfl, hB⟩
            exact hK _ _ hB rfl
          · obtain rfl := Option.some.inj ho
            have f5 : ac.tmps.getD 5 undef = .func (Fn.func 17) #[] #[] := slot hF 5 (by kernel_rfl)
            refine ⟨wanted_free rfl, fun K hK => ?_⟩
            unfold Oper.wp
            go_simp
            exact hK _ _ (Below.refl _ _) rfl
          · obtain rfl := Option.some.inj ho
            have f0 : ac.tmps.getD 0 undef = .int .i64 ((k : Int)) := slot hF 0 (by kernel_rfl)
            refine ⟨wanted_free rfl, fun K hK => ?_⟩
            unfold Oper.wp
            go_simp
            exact hK _ _ (Below.refl _ _) rfl
          · obtain rfl := Option.some.inj ho
            have f41 : ac.tmps.getD 41 undef = .func (Fn.func 17) #[] #[] := hF.fact 2 _ _ rfl rfl (dep hd 2 (by kernel_rfl))
            have f42 : ac.tmps.getD 42 undef = .int .i64 ((k : Int)) := hF.fact 3 _ _ rfl rfl (dep hd 3 (by kernel_rfl))
            refine ⟨wanted_free rfl, fun K hK => ?_⟩
            unfold Oper.wp
            go_simp
            refine (num_any k hks _).mono ?_
            rintro e w' ⟨rfl, hB⟩
            exact hK _ _ hB rfl
          · obtain rfl := Option.some.inj ho
            have f40 : ac.tmps.getD 40 undef = .agg (B32 (bdig k)) := hF.fact 1 _ _ rfl rfl (dep hd 1 (by kernel_rfl))
            have f43 : ac.tmps.getD 43 undef = .agg (B32 (bdig k)) := hF.fact 4 _ _ rfl rfl (dep hd 4 (by kernel_rfl))
            refine ⟨wanted_free rfl, fun K hK => ?_⟩
            unfold Oper.wp
            go_simp
            exact hK _ _ (Below.refl _ _) rfl
          · obtain rfl := Option.some.inj ho
            have f44 : ac.tmps.getD 44 undef = .bool true := hF.fact 5 _ _ rfl rfl (dep hd 5 (by kernel_rfl))
            refine ⟨wanted_free rfl, fun K hK => ?_⟩
            unfold Oper.wp
            go_simp
            exact hK _ _ (Below.refl _ _) rfl
          · obtain rfl := Option.some.inj ho
            have f7 : ac.tmps.getD 7 undef = .pointer (some ⟨bB, 0, none⟩) := slot hF 7 (by kernel_rfl)
            have fg : ac.tmps.getD 45 undef = .bool true := hF.fact 6 _ _ rfl rfl (dep hd 6 (by kernel_rfl))
            refine ⟨wanted_true (g := 6) rfl rfl rfl fg, fun K hK => ?_⟩
            exact wp_load_own 22 (.tmp 7) rfl bB f7 (B32 (bdig s)) _ 22 ((hKq.below hF.cls).at bB (B32 (bdig s)) 22 (by simp)) Tryd.underlying22 rfl (B32_info _) (hK _ _ (Below.refl _ _) rfl)
          · obtain rfl := Option.some.inj ho
            have f46 : ac.tmps.getD 46 undef = .agg (B32 (bdig s)) := hF.fact 7 _ _ rfl rfl (dep hd 7 (by kernel_rfl))
            have fg : ac.tmps.getD 45 undef = .bool true := hF.fact 6 _ _ rfl rfl (dep hd 6 (by kernel_rfl))
            refine ⟨wanted_true (g := 6) rfl rfl rfl fg, fun K hK => ?_⟩
            unfold Oper.wp
            go_simp
            refine (F.check s hs _ (F.keep _ _ hTq hF.cls)).mono ?_
            rintro e w' ⟨rfl, hB⟩
            rw [Hchk.out]
            exact hK _ _ hB rfl
          · obtain rfl := Option.some.inj ho
            have f1 : ac.tmps.getD 1 undef = .int .i64 (0) := slot hF 1 (by kernel_rfl)
            have fg : ac.tmps.getD 45 undef = .bool true := hF.fact 6 _ _ rfl rfl (dep hd 6 (by kernel_rfl))
            refine ⟨wanted_true (g := 6) rfl rfl rfl fg, fun K hK => ?_⟩
            unfold Oper.wp
            go_simp
            exact hK _ _ (Below.refl _ _) rfl
          · obtain rfl := Option.some.inj ho
            have f48 : ac.tmps.getD 48 undef = .int .i64 (0) := hF.fact 9 _ _ rfl rfl (dep hd 9 (by kernel_rfl))
            have fg : ac.tmps.getD 45 undef = .bool true := hF.fact 6 _ _ rfl rfl (dep hd 6 (by kernel_rfl))
            refine ⟨wanted_true (g := 6) rfl rfl rfl fg, fun K hK => ?_⟩
            unfold Oper.wp
            go_simp
            exact hK _ _ (Below.refl _ _) rfl
          · obtain rfl := Option.some.inj ho
            have f47 : ac.tmps.getD 47 undef = .bool true := hF.fact 8 _ _ rfl rfl (dep hd 8 (by kernel_rfl))
            have f49 : ac.tmps.getD 49 undef = .bool true := hF.fact 10 _ _ rfl rfl (dep hd 10 (by kernel_rfl))
            have fg : ac.tmps.getD 45 undef = .bool true := hF.fact 6 _ _ rfl rfl (dep hd 6 (by kernel_rfl))
            refine ⟨wanted_true (g := 6) rfl rfl rfl fg, fun K hK => ?_⟩
            unfold Oper.wp
            go_simp
            exact hK _ _ (Below.refl _ _) rfl
          · obtain rfl := Option.some.inj ho
            have f45 : ac.tmps.getD 45 undef = .bool true := hF.fact 6 _ _ rfl rfl (dep hd 6 (by kernel_rfl))
            have f50 : ac.tmps.getD 50 undef = .bool true := hF.fact 11 _ _ rfl rfl (dep hd 11 (by kernel_rfl))
            refine ⟨wanted_free rfl, fun K hK => ?_⟩
            unfold Oper.wp
            go_simp
            exact hK _ _ (Below.refl _ _) rfl
          · obtain rfl := Option.some.inj ho
            have f51 : ac.tmps.getD 51 undef = .bool true := hF.fact 12 _ _ rfl rfl (dep hd 12 (by kernel_rfl))
            refine ⟨wanted_free rfl, fun K hK => ?_⟩
            unfold Oper.wp
            go_simp
            exact hK _ _ (Below.refl _ _) rfl
          · obtain rfl := Option.some.inj ho
            have f5 : ac.tmps.getD 5 undef = .func (Fn.func 17) #[] #[] := slot hF 5 (by kernel_rfl)
            have fg : ac.tmps.getD 52 undef = .bool true := hF.fact 13 _ _ rfl rfl (dep hd 13 (by kernel_rfl))
            refine ⟨wanted_true (g := 13) rfl rfl rfl fg, fun K hK => ?_⟩
            unfold Oper.wp
            go_simp
            exact hK _ _ (Below.refl _ _) rfl
          · obtain rfl := Option.some.inj ho
            have f1 : ac.tmps.getD 1 undef = .int .i64 (0) := slot hF 1 (by kernel_rfl)
            have fg : ac.tmps.getD 52 undef = .bool true := hF.fact 13 _ _ rfl rfl (dep hd 13 (by kernel_rfl))
            refine ⟨wanted_true (g := 13) rfl rfl rfl fg, fun K hK => ?_⟩
            unfold Oper.wp
            go_simp
            exact hK _ _ (Below.refl _ _) rfl
          · obtain rfl := Option.some.inj ho
            have f53 : ac.tmps.getD 53 undef = .func (Fn.func 17) #[] #[] := hF.fact 14 _ _ rfl rfl (dep hd 14 (by kernel_rfl))
            have f54 : ac.tmps.getD 54 undef = .int .i64 (0) := hF.fact 15 _ _ rfl rfl (dep hd 15 (by kernel_rfl))
            have fg : ac.tmps.getD 52 undef = .bool true := hF.fact 13 _ _ rfl rfl (dep hd 13 (by kernel_rfl))
            refine ⟨wanted_true (g := 13) rfl rfl rfl fg, fun K hK => ?_⟩
            unfold Oper.wp
            go_simp
            refine (num_any 0 (by decide) _).mono ?_
            rintro e w' ⟨rfl, hB⟩
            exact hK _ _ hB rfl
          · obtain rfl := Option.some.inj ho
            have f6 : ac.tmps.getD 6 undef = .pointer (some ⟨bL, 0, none⟩) := slot hF 6 (by kernel_rfl)
            have fg : ac.tmps.getD 52 undef = .bool true := hF.fact 13 _ _ rfl rfl (dep hd 13 (by kernel_rfl))
            refine ⟨wanted_true (g := 13) rfl rfl rfl fg, fun K hK => ?_⟩
            exact wp_load_own 22 (.tmp 6) rfl bL f6 (B32 (bdig l)) _ 22 ((hKq.below hF.cls).at bL (B32 (bdig l)) 22 (by simp)) Tryd.underlying22 rfl (B32_info _) (hK _ _ (Below.refl _ _) rfl)
          · obtain rfl := Option.some.inj ho
            have f5 : ac.tmps.getD 5 undef = .func (Fn.func 17) #[] #[] := slot hF 5 (by kernel_rfl)
            have fg : ac.tmps.getD 52 undef = .bool true := hF.fact 13 _ _ rfl rfl (dep hd 13 (by kernel_rfl))
            refine ⟨wanted_true (g := 13) rfl rfl rfl fg, fun K hK => ?_⟩
            unfold Oper.wp
            go_simp
            exact hK _ _ (Below.refl _ _) rfl
          · obtain rfl := Option.some.inj ho
            have f0 : ac.tmps.getD 0 undef = .int .i64 ((k : Int)) := slot hF 0 (by kernel_rfl)
            have fg : ac.tmps.getD 52 undef = .bool true := hF.fact 13 _ _ rfl rfl (dep hd 13 (by kernel_rfl))
            refine ⟨wanted_true (g := 13) rfl rfl rfl fg, fun K hK => ?_⟩
            unfold Oper.wp
            go_simp
            exact hK _ _ (Below.refl _ _) rfl
          · obtain rfl := Option.some.inj ho
            have f57 : ac.tmps.getD 57 undef = .func (Fn.func 17) #[] #[] := hF.fact 18 _ _ rfl rfl (dep hd 18 (by kernel_rfl))
            have f58 : ac.tmps.getD 58 undef = .int .i64 ((k : Int)) := hF.fact 19 _ _ rfl rfl (dep hd 19 (by kernel_rfl))
            have fg : ac.tmps.getD 52 undef = .bool true := hF.fact 13 _ _ rfl rfl (dep hd 13 (by kernel_rfl))
            refine ⟨wanted_true (g := 13) rfl rfl rfl fg, fun K hK => ?_⟩
            unfold Oper.wp
            go_simp
            refine (num_any k hks _).mono ?_
            rintro e w' ⟨rfl, hB⟩
            exact hK _ _ hB rfl
          · obtain rfl := Option.some.inj ho
            have f55 : ac.tmps.getD 55 undef = .agg (B32 (bdig 0)) := hF.fact 16 _ _ rfl rfl (dep hd 16 (by kernel_rfl))
            have f56 : ac.tmps.getD 56 undef = .agg (B32 (bdig l)) := hF.fact 17 _ _ rfl rfl (dep hd 17 (by kernel_rfl))
            have f59 : ac.tmps.getD 59 undef = .agg (B32 (bdig k)) := hF.fact 20 _ _ rfl rfl (dep hd 20 (by kernel_rfl))
            have fg : ac.tmps.getD 52 undef = .bool true := hF.fact 13 _ _ rfl rfl (dep hd 13 (by kernel_rfl))
            refine ⟨wanted_true (g := 13) rfl rfl rfl fg, fun K hK => ?_⟩
            unfold Oper.wp
            go_simp
            refine (F.muladdA (by decide) hl (small_R6 hks) Hma.out _ (F.keep _ _ hTq hF.cls)).mono ?_
            rintro e w' ⟨rfl, hB⟩
            exact hK _ _ hB rfl
          · obtain rfl := Option.some.inj ho
            have f5 : ac.tmps.getD 5 undef = .func (Fn.func 17) #[] #[] := slot hF 5 (by kernel_rfl)
            have fg : ac.tmps.getD 52 undef = .bool true := hF.fact 13 _ _ rfl rfl (dep hd 13 (by kernel_rfl))
            refine ⟨wanted_true (g := 13) rfl rfl rfl fg, fun K hK => ?_⟩
            unfold Oper.wp
            go_simp
            exact hK _ _ (Below.refl _ _) rfl
          · obtain rfl := Option.some.inj ho
            have f0 : ac.tmps.getD 0 undef = .int .i64 ((k : Int)) := slot hF 0 (by kernel_rfl)
            have fg : ac.tmps.getD 52 undef = .bool true := hF.fact 13 _ _ rfl rfl (dep hd 13 (by kernel_rfl))
            refine ⟨wanted_true (g := 13) rfl rfl rfl fg, fun K hK => ?_⟩
            unfold Oper.wp
            go_simp
            exact hK _ _ (Below.refl _ _) rfl
          · obtain rfl := Option.some.inj ho
            have f61 : ac.tmps.getD 61 undef = .func (Fn.func 17) #[] #[] := hF.fact 22 _ _ rfl rfl (dep hd 22 (by kernel_rfl))
            have f62 : ac.tmps.getD 62 undef = .int .i64 ((k : Int)) := hF.fact 23 _ _ rfl rfl (dep hd 23 (by kernel_rfl))
            have fg : ac.tmps.getD 52 undef = .bool true := hF.fact 13 _ _ rfl rfl (dep hd 13 (by kernel_rfl))
            refine ⟨wanted_true (g := 13) rfl rfl rfl fg, fun K hK => ?_⟩
            unfold Oper.wp
            go_simp
            refine (num_any k hks _).mono ?_
            rintro e w' ⟨rfl, hB⟩
            exact hK _ _ hB rfl
          · obtain rfl := Option.some.inj ho
            have f60 : ac.tmps.getD 60 undef = .agg (B32 (bdig k)) := hF.fact 21 _ _ rfl rfl (dep hd 21 (by kernel_rfl))
            have f63 : ac.tmps.getD 63 undef = .agg (B32 (bdig k)) := hF.fact 24 _ _ rfl rfl (dep hd 24 (by kernel_rfl))
            have fg : ac.tmps.getD 52 undef = .bool true := hF.fact 13 _ _ rfl rfl (dep hd 13 (by kernel_rfl))
            refine ⟨wanted_true (g := 13) rfl rfl rfl fg, fun K hK => ?_⟩
            unfold Oper.wp
            go_simp
            exact hK _ _ (Below.refl _ _) rfl
          · obtain rfl := Option.some.inj ho
            have f52 : ac.tmps.getD 52 undef = .bool true := hF.fact 13 _ _ rfl rfl (dep hd 13 (by kernel_rfl))
            have f64 : ac.tmps.getD 64 undef = .bool true := hF.fact 25 _ _ rfl rfl (dep hd 25 (by kernel_rfl))
            refine ⟨wanted_free rfl, fun K hK => ?_⟩
            unfold Oper.wp
            go_simp
            exact hK _ _ (Below.refl _ _) rfl
          · obtain rfl := Option.some.inj ho
            have f65 : ac.tmps.getD 65 undef = .bool true := hF.fact 26 _ _ rfl rfl (dep hd 26 (by kernel_rfl))
            refine ⟨wanted_free rfl, fun K hK => ?_⟩
            unfold Oper.wp
            go_simp
            exact hK _ _ (Below.refl _ _) rfl
          · obtain rfl := Option.some.inj ho
            have fg : ac.tmps.getD 66 undef = .bool true := hF.fact 27 _ _ rfl rfl (dep hd 27 (by kernel_rfl))
            refine ⟨wanted_true (g := 27) rfl rfl rfl fg, fun K hK => ?_⟩
            unfold Oper.wp
            go_simp
            refine (swakes_any F.toSclT _ (F.keep _ _ hTq hF.cls)).mono ?_
            rintro e w' ⟨rfl, hB⟩
            exact hK _ _ hB rfl
          · obtain rfl := Option.some.inj ho
            have f66 : ac.tmps.getD 66 undef = .bool true := hF.fact 27 _ _ rfl rfl (dep hd 27 (by kernel_rfl))
            have f67 : ac.tmps.getD 67 undef = .bool true := hF.fact 28 _ _ rfl rfl (dep hd 28 (by kernel_rfl))
            refine ⟨wanted_free rfl, fun K hK => ?_⟩
            unfold Oper.wp
            go_simp
            exact hK _ _ (Below.refl _ _) rfl
          · obtain rfl := Option.some.inj ho
            have f68 : ac.tmps.getD 68 undef = .bool true := hF.fact 29 _ _ rfl rfl (dep hd 29 (by kernel_rfl))
            refine ⟨wanted_free rfl, fun K hK => ?_⟩
            unfold Oper.wp
            go_simp
            exact hK _ _ (Below.refl _ _) rfl
          · cases ho
        · intro L ac wc hL hF
          have fe : ac.tmps.getD 4 undef = .bool true := hF.fact 30 _ 4 rfl rfl (hL 30 (by decide))
          have hb' := (hKq.below hF.cls).2
          go_wp2
          exact bodyPost_ret (results_tmp rfl _ _ _) hF.defers ⟨by rw [fe], hb'⟩
      · have Hchk : Hid (decide (s < LL) = false) := by
          show _ = _
          exact decide_eq_false (by rw [← Hs.out]; exact ends_more htp)
        have htb : ((t : Int) == 0) = false := by rw [beq_eq_false_iff_ne]; omega
        go_upto_region 12 with fail
        refine wp_region_stable 69 (by kernel_rfl) (by kernel_rfl) (by rfl) (fun i vv _ => vv = valEf k t l s i) (fun _ _ _ _ _ h => h) ?_ ?_
        · intro L ac wc i o hF ho hd
          rcases i with _ | _ | _ | _ | _ | _ | _ | _ | _ | _ | _ | _ | _ | _ | _ | _ | _ | _ | _ | _ | _ | _ | _ | _ | _ | _ | _ | _ | _ | _ | _ | i
          · obtain rfl := Option.some.inj ho
            have f7 : ac.tmps.getD 7 undef = .pointer (some ⟨bB, 0, none⟩) := slot hF 7 (by kernel_rfl)
            refine ⟨wanted_free rfl, fun K hK => ?_⟩
            exact wp_load_own 22 (.tmp 7) rfl bB f7 (B32 (bdig s)) _ 22 ((hKq.below hF.cls).at bB (B32 (bdig s)) 22 (by simp)) Tryd.underlying22 rfl (B32_info _) (hK _ _ (Below.refl _ _) rfl)
          · obtain rfl := Option.some.inj ho
            have f39 : ac.tmps.getD 39 undef = .agg (B32 (bdig s)) := hF.fact 0 _ _ rfl rfl (dep hd 0 (by kernel_rfl))
            refine ⟨wanted_free rfl, fun K hK => ?_⟩
            unfold Oper.wp
            go_simp
            refine (F.modA hs Hmod.out _ (F.keep _ _ hTq hF.cls)).mono ?_
            rintro e w' ⟨rfl, hB⟩
            exact hK _ _ hB rfl
          · obtain rfl := Option.some.inj ho
            have f5 : ac.tmps.getD 5 undef = .func (Fn.func 17) #[] #[] := slot hF 5 (by kernel_rfl)
            refine ⟨wanted_free rfl, fun K hK => ?_⟩
            unfold Oper.wp
            go_simp
            exact hK _ _ (Below.refl _ _) rfl
          · obtain rfl := Option.some.inj ho
            have f0 : ac.tmps.getD 0 undef = .int .i64 ((k : Int)) := slot hF 0 (by kernel_rfl)
            refine ⟨wanted_free rfl, fun K hK => ?_⟩
            unfold Oper.wp
            go_simp
            exact hK _ _ (Below.refl _ _) rfl
          · obtain rfl := Option.some.inj ho
            have f41 : ac.tmps.getD 41 undef = .func (Fn.func 17) #[] #[] := hF.fact 2 _ _ rfl rfl (dep hd 2 (by kernel_rfl))
            have f42 : ac.tmps.getD 42 undef = .int .i64 ((k : Int)) := hF.fact 3 _ _ rfl rfl (dep hd 3 (by kernel_rfl))
            refine ⟨wanted_free rfl, fun K hK => ?_⟩
            unfold Oper.wp
            go_simp
            refine (num_any k hks _).mono ?_
            rintro e w' ⟨rfl, hB⟩
            exact hK _ _ hB rfl
          · obtain rfl := Option.some.inj ho
            have f40 : ac.tmps.getD 40 undef = .agg (B32 (bdig k)) := hF.fact 1 _ _ rfl rfl (dep hd 1 (by kernel_rfl))
            have f43 : ac.tmps.getD 43 undef = .agg (B32 (bdig k)) := hF.fact 4 _ _ rfl rfl (dep hd 4 (by kernel_rfl))
            refine ⟨wanted_free rfl, fun K hK => ?_⟩
            unfold Oper.wp
            go_simp
            exact hK _ _ (Below.refl _ _) rfl
          · obtain rfl := Option.some.inj ho
            have f44 : ac.tmps.getD 44 undef = .bool true := hF.fact 5 _ _ rfl rfl (dep hd 5 (by kernel_rfl))
            refine ⟨wanted_free rfl, fun K hK => ?_⟩
            unfold Oper.wp
            go_simp
            exact hK _ _ (Below.refl _ _) rfl
          · obtain rfl := Option.some.inj ho
            have f7 : ac.tmps.getD 7 undef = .pointer (some ⟨bB, 0, none⟩) := slot hF 7 (by kernel_rfl)
            have fg : ac.tmps.getD 45 undef = .bool true := hF.fact 6 _ _ rfl rfl (dep hd 6 (by kernel_rfl))
            refine ⟨wanted_true (g := 6) rfl rfl rfl fg, fun K hK => ?_⟩
            exact wp_load_own 22 (.tmp 7) rfl bB f7 (B32 (bdig s)) _ 22 ((hKq.below hF.cls).at bB (B32 (bdig s)) 22 (by simp)) Tryd.underlying22 rfl (B32_info _) (hK _ _ (Below.refl _ _) rfl)
          · obtain rfl := Option.some.inj ho
            have f46 : ac.tmps.getD 46 undef = .agg (B32 (bdig s)) := hF.fact 7 _ _ rfl rfl (dep hd 7 (by kernel_rfl))
            have fg : ac.tmps.getD 45 undef = .bool true := hF.fact 6 _ _ rfl rfl (dep hd 6 (by kernel_rfl))
            refine ⟨wanted_true (g := 6) rfl rfl rfl fg, fun K hK => ?_⟩
            unfold Oper.wp
            go_simp
            refine (F.check s hs _ (F.keep _ _ hTq hF.cls)).mono ?_
            rintro e w' ⟨rfl, hB⟩
            rw [Hchk.out]
            exact hK _ _ hB rfl
          · obtain rfl := Option.some.inj ho
            have f1 : ac.tmps.getD 1 undef = .int .i64 ((t : Int)) := slot hF 1 (by kernel_rfl)
            have fg : ac.tmps.getD 45 undef = .bool true := hF.fact 6 _ _ rfl rfl (dep hd 6 (by kernel_rfl))
            refine ⟨wanted_true (g := 6) rfl rfl rfl fg, fun K hK => ?_⟩
            unfold Oper.wp
            go_simp
            exact hK _ _ (Below.refl _ _) rfl
          · obtain rfl := Option.some.inj ho
            have f48 : ac.tmps.getD 48 undef = .int .i64 ((t : Int)) := hF.fact 9 _ _ rfl rfl (dep hd 9 (by kernel_rfl))
            have fg : ac.tmps.getD 45 undef = .bool true := hF.fact 6 _ _ rfl rfl (dep hd 6 (by kernel_rfl))
            refine ⟨wanted_true (g := 6) rfl rfl rfl fg, fun K hK => ?_⟩
            unfold Oper.wp
            go_simp
            exact hK _ _ (Below.refl _ _) rfl
          · obtain rfl := Option.some.inj ho
            have f47 : ac.tmps.getD 47 undef = .bool false := hF.fact 8 _ _ rfl rfl (dep hd 8 (by kernel_rfl))
            have f49 : ac.tmps.getD 49 undef = .bool false := hF.fact 10 _ _ rfl rfl (dep hd 10 (by kernel_rfl))
            have fg : ac.tmps.getD 45 undef = .bool true := hF.fact 6 _ _ rfl rfl (dep hd 6 (by kernel_rfl))
            refine ⟨wanted_true (g := 6) rfl rfl rfl fg, fun K hK => ?_⟩
            unfold Oper.wp
            go_simp
            exact hK _ _ (Below.refl _ _) rfl
          · obtain rfl := Option.some.inj ho
            have f45 : ac.tmps.getD 45 undef = .bool true := hF.fact 6 _ _ rfl rfl (dep hd 6 (by kernel_rfl))
            have f50 : ac.tmps.getD 50 undef = .bool true := hF.fact 11 _ _ rfl rfl (dep hd 11 (by kernel_rfl))
            refine ⟨wanted_free rfl, fun K hK => ?_⟩
            unfold Oper.wp
            go_simp
            exact hK _ _ (Below.refl _ _) rfl
          · obtain rfl := Option.some.inj ho
            have f51 : ac.tmps.getD 51 undef = .bool true := hF.fact 12 _ _ rfl rfl (dep hd 12 (by kernel_rfl))
            refine ⟨wanted_free rfl, fun K hK => ?_⟩
            unfold Oper.wp
            go_simp
            exact hK _ _ (Below.refl _ _) rfl
          · obtain rfl := Option.some.inj ho
            have f5 : ac.tmps.getD 5 undef = .func (Fn.func 17) #[] #[] := slot hF 5 (by kernel_rfl)
            have fg : ac.tmps.getD 52 undef = .bool true := hF.fact 13 _ _ rfl rfl (dep hd 13 (by kernel_rfl))
            refine ⟨wanted_true (g := 13) rfl rfl rfl fg, fun K hK => ?_⟩
            unfold Oper.wp
            go_simp
            exact hK _ _ (Below.refl _ _) rfl
          · obtain rfl := Option.some.inj ho
            have f1 : ac.tmps.getD 1 undef = .int .i64 ((t : Int)) := slot hF 1 (by kernel_rfl)
            have fg : ac.tmps.getD 52 undef = .bool true := hF.fact 13 _ _ rfl rfl (dep hd 13 (by kernel_rfl))
            refine ⟨wanted_true (g := 13) rfl rfl rfl fg, fun K hK => ?_⟩
            unfold Oper.wp
            go_simp
            exact hK _ _ (Below.refl _ _) rfl
          · obtain rfl := Option.some.inj ho
            have f53 : ac.tmps.getD 53 undef = .func (Fn.func 17) #[] #[] := hF.fact 14 _ _ rfl rfl (dep hd 14 (by kernel_rfl))
            have f54 : ac.tmps.getD 54 undef = .int .i64 ((t : Int)) := hF.fact 15 _ _ rfl rfl (dep hd 15 (by kernel_rfl))
            have fg : ac.tmps.getD 52 undef = .bool true := hF.fact 13 _ _ rfl rfl (dep hd 13 (by kernel_rfl))
            refine ⟨wanted_true (g := 13) rfl rfl rfl fg, fun K hK => ?_⟩
            unfold Oper.wp
            go_simp
            refine (num_any t hts _).mono ?_
            rintro e w' ⟨rfl, hB⟩
            exact hK _ _ hB rfl
          · obtain rfl := Option.some.inj ho
            have f6 : ac.tmps.getD 6 undef = .pointer (some ⟨bL, 0, none⟩) := slot hF 6 (by kernel_rfl)
            have fg : ac.tmps.getD 52 undef = .bool true := hF.fact 13 _ _ rfl rfl (dep hd 13 (by kernel_rfl))
            refine ⟨wanted_true (g := 13) rfl rfl rfl fg, fun K hK => ?_⟩
            exact wp_load_own 22 (.tmp 6) rfl bL f6 (B32 (bdig l)) _ 22 ((hKq.below hF.cls).at bL (B32 (bdig l)) 22 (by simp)) Tryd.underlying22 rfl (B32_info _) (hK _ _ (Below.refl _ _) rfl)
          · obtain rfl := Option.some.inj ho
            have f5 : ac.tmps.getD 5 undef = .func (Fn.func 17) #[] #[] := slot hF 5 (by kernel_rfl)
            have fg : ac.tmps.getD 52 undef = .bool true := hF.fact 13 _ _ rfl rfl (dep hd 13 (by kernel_rfl))
            refine ⟨wanted_true (g := 13) rfl rfl rfl fg, fun K hK => ?_⟩
            unfold Oper.wp
            go_simp
            exact hK _ _ (Below.refl _ _) rfl
          · obtain rfl := Option.some.inj ho
            have f0 : ac.tmps.getD 0 undef = .int .i64 ((k : Int)) := slot hF 0 (by kernel_rfl)
            have fg : ac.tmps.getD 52 undef = .bool true := hF.fact 13 _ _ rfl rfl (dep hd 13 (by kernel_rfl))
            refine ⟨wanted_true (g := 13) rfl rfl rfl fg, fun K hK => ?_⟩
            unfold Oper.wp
            go_simp
            exact hK _ _ (Below.refl _ _) rfl
          · obtain rfl := Option.some.inj ho
            have f57 : ac.tmps.getD 57 undef = .func (Fn.func 17) #[] #[] := hF.fact 18 _ _ rfl rfl (dep hd 18 (by kernel_rfl))
            have f58 : ac.tmps.getD 58 undef = .int .i64 ((k : Int)) := hF.fact 19 _ _ rfl rfl (dep hd 19 (by kernel_rfl))
            have fg : ac.tmps.getD 52 undef = .bool true := hF.fact 13 _ _ rfl rfl (dep hd 13 (by kernel_rfl))
            refine ⟨wanted_true (g := 13) rfl rfl rfl fg, fun K hK => ?_⟩
            unfold Oper.wp
            go_simp
            refine (num_any k hks _).mono ?_
            rintro e w' ⟨rfl, hB⟩
            exact hK _ _ hB rfl
          · obtain rfl := Option.some.inj ho
            have f55 : ac.tmps.getD 55 undef = .agg (B32 (bdig t)) := hF.fact 16 _ _ rfl rfl (dep hd 16 (by kernel_rfl))
            have f56 : ac.tmps.getD 56 undef = .agg (B32 (bdig l)) := hF.fact 17 _ _ rfl rfl (dep hd 17 (by kernel_rfl))
            have f59 : ac.tmps.getD 59 undef = .agg (B32 (bdig k)) := hF.fact 20 _ _ rfl rfl (dep hd 20 (by kernel_rfl))
            have fg : ac.tmps.getD 52 undef = .bool true := hF.fact 13 _ _ rfl rfl (dep hd 13 (by kernel_rfl))
            refine ⟨wanted_true (g := 13) rfl rfl rfl fg, fun K hK => ?_⟩
            unfold Oper.wp
            go_simp
            refine (F.muladdA (small_R6 hts) hl (small_R6 hks) Hma.out _ (F.keep _ _ hTq hF.cls)).mono ?_
            rintro e w' ⟨rfl, hB⟩
            exact hK _ _ hB rfl
          · obtain rfl := Option.some.inj ho
            have f5 : ac.tmps.getD 5 undef = .func (Fn.func 17) #[] #[] := slot hF 5 (by kernel_rfl)
            have fg : ac.tmps.getD 52 undef = .bool true := hF.fact 13 _ _ rfl rfl (dep hd 13 (by kernel_rfl))
            refine ⟨wanted_true (g := 13) rfl rfl rfl fg, fun K hK => ?_⟩
            unfold Oper.wp
            go_simp
            exact hK _ _ (Below.refl _ _) rfl
          · obtain rfl := Option.some.inj ho
            have f0 : ac.tmps.getD 0 undef = .int .i64 ((k : Int)) := slot hF 0 (by kernel_rfl)
            have fg : ac.tmps.getD 52 undef = .bool true := hF.fact 13 _ _ rfl rfl (dep hd 13 (by kernel_rfl))
            refine ⟨wanted_true (g := 13) rfl rfl rfl fg, fun K hK => ?_⟩
            unfold Oper.wp
            go_simp
            exact hK _ _ (Below.refl _ _) rfl
          · obtain rfl := Option.some.inj ho
            have f61 : ac.tmps.getD 61 undef = .func (Fn.func 17) #[] #[] := hF.fact 22 _ _ rfl rfl (dep hd 22 (by kernel_rfl))
            have f62 : ac.tmps.getD 62 undef = .int .i64 ((k : Int)) := hF.fact 23 _ _ rfl rfl (dep hd 23 (by kernel_rfl))
            have fg : ac.tmps.getD 52 undef = .bool true := hF.fact 13 _ _ rfl rfl (dep hd 13 (by kernel_rfl))
            refine ⟨wanted_true (g := 13) rfl rfl rfl fg, fun K hK => ?_⟩
            unfold Oper.wp
            go_simp
            refine (num_any k hks _).mono ?_
            rintro e w' ⟨rfl, hB⟩
            exact hK _ _ hB rfl
          · obtain rfl := Option.some.inj ho
            have f60 : ac.tmps.getD 60 undef = .agg (B32 (bdig k)) := hF.fact 21 _ _ rfl rfl (dep hd 21 (by kernel_rfl))
            have f63 : ac.tmps.getD 63 undef = .agg (B32 (bdig k)) := hF.fact 24 _ _ rfl rfl (dep hd 24 (by kernel_rfl))
            have fg : ac.tmps.getD 52 undef = .bool true := hF.fact 13 _ _ rfl rfl (dep hd 13 (by kernel_rfl))
            refine ⟨wanted_true (g := 13) rfl rfl rfl fg, fun K hK => ?_⟩
            unfold Oper.wp
            go_simp
            exact hK _ _ (Below.refl _ _) rfl
          · obtain rfl := Option.some.inj ho
            have f52 : ac.tmps.getD 52 undef = .bool true := hF.fact 13 _ _ rfl rfl (dep hd 13 (by kernel_rfl))
            have f64 : ac.tmps.getD 64 undef = .bool true := hF.fact 25 _ _ rfl rfl (dep hd 25 (by kernel_rfl))
            refine ⟨wanted_free rfl, fun K hK => ?_⟩
            unfold Oper.wp
            go_simp
            exact hK _ _ (Below.refl _ _) rfl
          · obtain rfl := Option.some.inj ho
            have f65 : ac.tmps.getD 65 undef = .bool true := hF.fact 26 _ _ rfl rfl (dep hd 26 (by kernel_rfl))
            refine ⟨wanted_free rfl, fun K hK => ?_⟩
            unfold Oper.wp
            go_simp
            exact hK _ _ (Below.refl _ _) rfl
          · obtain rfl := Option.some.inj ho
            have fg : ac.tmps.getD 66 undef = .bool true := hF.fact 27 _ _ rfl rfl (dep hd 27 (by kernel_rfl))
            refine ⟨wanted_true (g := 27) rfl rfl rfl fg, fun K hK => ?_⟩
            unfold Oper.wp
            go_simp
            refine (swakes_any F.toSclT _ (F.keep _ _ hTq hF.cls)).mono ?_
            rintro e w' ⟨rfl, hB⟩
            exact hK _ _ hB rfl
          · obtain rfl := Option.some.inj ho
            have f66 : ac.tmps.getD 66 undef = .bool true := hF.fact 27 _ _ rfl rfl (dep hd 27 (by kernel_rfl))
            have f67 : ac.tmps.getD 67 undef = .bool true := hF.fact 28 _ _ rfl rfl (dep hd 28 (by kernel_rfl))
            refine ⟨wanted_free rfl, fun K hK => ?_⟩
            unfold Oper.wp
            go_simp
            exact hK _ _ (Below.refl _ _) rfl
          · obtain rfl := Option.some.inj ho
            have f68 : ac.tmps.getD 68 undef = .bool true := hF.fact 29 _ _ rfl rfl (dep hd 29 (by kernel_rfl))
            refine ⟨wanted_free rfl, fun K hK => ?_⟩
            unfold Oper.wp
            go_simp
            exact hK _ _ (Below.refl _ _) rfl
          · cases ho
        · intro L ac wc hL hF
          have fe : ac.tmps.getD 4 undef = .bool true := hF.fact 30 _ 4 rfl rfl (hL 30 (by decide))
          have hb' := (hKq.below hF.cls).2
          go_wp2
          exact bodyPost_ret (results_tmp rfl _ _ _) hF.defers ⟨by rw [fe], hb'⟩
end Go.Proofs.YtofoihebhdpjlaaDoor
