/- The walk of the law ScalarWide, over the program's functions by their contracts. -/
import Derived.Test.YtofoihebhdpjlaaDoorS3
namespace Go.Proofs.YtofoihebhdpjlaaDoor
open Go.RowKit
theorem r256_pow : R256 = 256 ^ 32 := by decide
theorem bdig_low (z j : Nat) (hj : j < 32) : bdig (z % R256) j = bdig z j := by
  rw [r256_pow]
  unfold bdig
  rw [show (256 : Nat) ^ 32 = 256 ^ j * 256 ^ (32 - j) by rw [← Nat.pow_add, show j + (32 - j) = 32 by omega], Nat.mod_mul_right_div_self, Nat.mod_mod_of_dvd]
  exact ⟨256 ^ (31 - j), by rw [show 32 - j = (31 - j) + 1 by omega, Nat.pow_succ, Nat.mul_comm]⟩
theorem bdig_high2 (z j : Nat) : bdig (z / R256) j = bdig z (32 + j) := by
  rw [r256_pow]
  unfold bdig
  rw [Nat.div_div_eq_div_mul, ← Nat.pow_add]
theorem bdig_most : ∀ j, j < 32 → bdig (R256 - 1) j = 255 := by decide +kernel
theorem wide_law (z v : Nat) (hv : (1 * (R256 - 1) + 1) % LL = v) : (z / R256 * v + z % R256) % LL = z % LL := by
  have e : 1 * (R256 - 1) + 1 = R256 := by decide
  rw [e] at hv
  rw [← hv, Nat.add_mod, Nat.mul_mod_mod, ← Nat.add_mod, Nat.mul_comm, Nat.div_add_mod]
theorem half_lt {z : Nat} (h : z < R512) : z / R256 < R256 := by
  rw [R512_eq] at h
  exact Nat.div_lt_of_lt_mul h
def valWd (z hi lo v y : Nat) : Nat → Value
  | 0 => .agg (B64 (bdig z))
  | 1 => .agg (B32 (bdig y))
  | 2 => .agg (B32 (bdig hi))
  | 3 => .agg (B32 (bdig v))
  | 4 => .agg (B32 (bdig lo))
  | 5 => .agg (B32 (bdig y))
  | _ => .bool true

set_option maxRecDepth 100000 in
set_option maxHeartbeats 16000000 in
theorem swide_any {T : World → Prop} (F : Scl T) (z : Nat) (hz : z < R512) (w : World) (hT : T w) : Calls Tryd.prog 8 #[.agg (B64 (bdig z))] w fun x w' => x = .returned (.bool true) ∧ Below w.heap.size w w' := by
  have hz0 := (zero_of_info zeroB32).1
  obtain ⟨y, Hy⟩ : ∃ x, Hid (z % LL = x) := ⟨_, rfl⟩
  have hy : y < R256 := by rw [← Hy.out]; exact lt_of_modL
  obtain ⟨mo, Hmo⟩ : ∃ x, Hid (R256 - 1 = x) := ⟨_, rfl⟩
  have hmo : mo < R256 := by rw [← Hmo.out]; decide
  obtain ⟨v, Hv⟩ : ∃ x, Hid ((1 * mo + 1) % LL = x) := ⟨_, rfl⟩
  have hv : v < R256 := by rw [← Hv.out]; exact lt_of_modL
  have Hwl : Hid ((z / R256 * v + z % R256) % LL = y) := by show _ = _; rw [← Hy.out]; exact wide_law z v (by rw [Hmo.out]; exact Hv.out)
  obtain ⟨hi, Hhi⟩ : ∃ x, Hid (z / R256 = x) := ⟨_, rfl⟩
  have hhi : hi < R256 := by rw [← Hhi.out]; exact half_lt hz
  obtain ⟨lo, Hlo⟩ : ∃ x, Hid (z % R256 = x) := ⟨_, rfl⟩
  have hlo : lo < R256 := by rw [← Hlo.out]; exact Nat.mod_lt _ (by decide)
  have Hy2 : Hid ((hi * v + lo) % LL = y) := by show _ = _; rw [← Hhi.out, ← Hlo.out]; exact Hwl.out
  have Hb1 : Hid (∀ j, j < 32 → bdig lo j = bdig z j) := by show ∀ _, _; rw [← Hlo.out]; exact bdig_low z
  have Hb2 : Hid (∀ j, bdig hi j = bdig z (32 + j)) := by show ∀ _, _; rw [← Hhi.out]; exact bdig_high2 z
  have Hb3 : Hid (∀ j, j < 32 → bdig mo j = 255) := by show ∀ _, _; rw [← Hmo.out]; exact bdig_most
  have same_y := B32_same y hy
  clear Hwl Hmo Hhi Hlo
  go_enter Tryd.func8, Tryd.ntmps8
  go_wp2_with fail
  have hK0 := ((((Kp.nil w).alloc (B64 (bdig z)) 23).alloc (B32 fun _ => 0) 22).alloc (B32 fun _ => 0) 22).alloc (B32 fun _ => 0) 22
  rw [World.size_alloc, World.size_alloc, World.size_alloc] at hK0
  generalize (((w.alloc (.cells (B64 (bdig z)) 23)).alloc (.cells (B32 fun _ => 0) 22)).alloc (.cells (B32 fun _ => 0) 22)).alloc (.cells (B32 fun _ => 0) 22) = W0 at *
  obtain ⟨bW, H1⟩ : ∃ b, Hid (w.heap.size = b) := ⟨_, rfl⟩
  obtain ⟨bL, H2⟩ : ∃ b, Hid (bW + 1 = b) := ⟨_, rfl⟩
  obtain ⟨bH, H3⟩ : ∃ b, Hid (bL + 1 = b) := ⟨_, rfl⟩
  obtain ⟨bM, H4⟩ : ∃ b, Hid (bH + 1 = b) := ⟨_, rfl⟩
  have l1 : w.heap.size ≤ bL := by have := H1.out; have := H2.out; omega
  have l2 : w.heap.size ≤ bH := by have := H3.out; omega
  have l3 : w.heap.size ≤ bM := by have := H4.out; omega
  have n1 : bW ≠ bL := by have := H2.out; omega
  have n2 : bW ≠ bH := by have := H2.out; have := H3.out; omega
  have n3 : bW ≠ bM := by have := H2.out; have := H3.out; have := H4.out; omega
  have n4 : bL ≠ bH := by have := H3.out; omega
  have n5 : bL ≠ bM := by have := H3.out; have := H4.out; omega
  have n6 : bH ≠ bM := by have := H4.out; omega
  rw [H1.out, H2.out, H3.out, H4.out] at hK0 ⊢
  go_loopw [6] (fun ii wr => ∃ (k : Nat) (f g h : Nat → Nat), k ≤ 32 ∧ ii = .int .i64 (k : Int) ∧ (∀ j, j < k → f j = bdig lo j ∧ g j = bdig hi j ∧ h j = bdig mo j) ∧ Kp [(bM, B32 h, 22), (bH, B32 g, 22), (bL, B32 f, 22), (bW, B64 (bdig z), 23)] w wr) (fun ii _ => 32 - (intOf ii).toNat)
  case atStart => exact ⟨0, fun _ => 0, fun _ => 0, fun _ => 0, by omega, rfl, fun j hj => by omega, hK0⟩
  case round =>
    obtain ⟨k, f, g, h, hk, rfl, hh, hKr⟩ := hrel
    have hk0 : (0 : Int) ≤ (k : Int) := by omega
    by_cases hlt : k < 32
    · have hki : (k : Int) < 32 := by omega
      have cW := hKr.h4.cell (B64_at (bdig z) k (by omega))
      have cW2 := hKr.h4.cell (B64_at (bdig z) (32 + k) (by omega))
      have cL := hKr.h3.cell (B32_at f k hlt)
      have cH := hKr.h2.cell (B32_at g k hlt)
      have cM := hKr.h1.cell (B32_at h k hlt)
      have fL := hKr.h3.frozen k
      have fH := hKr.h2.frozen k
      have fM := hKr.h1.frozen k
      have hk32 : (32 : Int) + (k : Int) < 64 := by omega
      have hk33 : (0 : Int) ≤ (32 : Int) + (k : Int) := by omega
      have hkt : ((32 : Int) + (k : Int)).toNat = 32 + k := by omega
      have Hk1 := show Hid _ from Hb1.out k hlt
      have Hk2 := show Hid _ from Hb2.out k
      have Hk3 := show Hid _ from Hb3.out k hlt
      rw [← Hk1.out] at cW
      rw [← Hk2.out] at cW2
      have hS1 := Kp.setCell (i := k) (v := .int .u8 (bdig lo k : Int)) (hKr.sub (l' := [(bL, B32 f, 22), (bM, B32 h, 22), (bH, B32 g, 22), (bW, B64 (bdig z), 23)]) (fun p hp => by simp only [List.mem_cons, List.not_mem_nil, or_false] at hp ⊢; rcases hp with h | h | h | h <;> simp [h])) (by simp; omega) l1
      have hS2 := Kp.setCell (i := k) (v := .int .u8 (bdig hi k : Int)) (hS1.sub (l' := [(bH, B32 g, 22), (bL, (B32 f).setIfInBounds k (.int .u8 (bdig lo k : Int)), 22), (bM, B32 h, 22), (bW, B64 (bdig z), 23)]) (fun p hp => by simp only [List.mem_cons, List.not_mem_nil, or_false] at hp ⊢; rcases hp with h | h | h | h <;> simp [h])) (by simp; omega) l2
      have hS3 := Kp.setCell (i := k) (v := .int .u8 255) (hS2.sub (l' := [(bM, B32 h, 22), (bH, (B32 g).setIfInBounds k (.int .u8 (bdig hi k : Int)), 22), (bL, (B32 f).setIfInBounds k (.int .u8 (bdig lo k : Int)), 22), (bW, B64 (bdig z), 23)]) (fun p hp => by simp only [List.mem_cons, List.not_mem_nil, or_false] at hp ⊢; rcases hp with h | h | h | h <;> simp [h])) (by simp; omega) l3
      rw [show (255 : Int) = ((255 : Nat) : Int) from rfl, B32_set f k _ hlt, B32_set g k _ hlt, B32_set h k _ hlt] at hS3
      have HS := show Hid _ from hS3
      clear hS1 hS2 hS3
      have Hup : Hid (∀ j, j < k + 1 → upd f k (bdig lo k) j = bdig lo j ∧ upd g k (bdig hi k) j = bdig hi j ∧ upd h k 255 j = bdig mo j) := fun j hj => by
        by_cases e : j = k
        · rw [e, upd_same, upd_same, upd_same]; exact ⟨rfl, rfl, Hk3.out.symm⟩
        · rw [upd_other _ _ _ _ e, upd_other _ _ _ _ e, upd_other _ _ _ _ e]; exact hh j (by omega)
      generalize hF1 : upd f k (bdig lo k) = f' at HS Hup
      generalize hF2 : upd g k (bdig hi k) = g' at HS Hup
      generalize hF3 : upd h k 255 = h' at HS Hup
      clear hF1 hF2 hF3 Hk1 Hk2 Hk3
      generalize bdig lo k = x1 at cW HS
      generalize bdig hi k = x2 at cW2 HS
      go_upto_region 5 with fail
      go_region
      go_wp2_with fail
      exact ⟨⟨k + 1, f', g', h', by omega, by go_num, Hup.out, Kp.below HS.out ((Below.refl _ _).drew)⟩, by simp [intOf]; omega⟩
    · have hki : ¬ (k : Int) < 32 := by omega
      have e1 : B32 f = B32 (bdig lo) := B32_ext fun i hi => (hh i (by omega)).1
      have e2 : B32 g = B32 (bdig hi) := B32_ext fun i hi => (hh i (by omega)).2.1
      have e3 : B32 h = B32 (bdig mo) := B32_ext fun i hi => (hh i (by omega)).2.2
      rw [e1, e2, e3] at hKr
      clear e1 e2 e3 hh hK0
      go_wp2_with fail
      refine (num_any 1 (by decide) _).mono ?_
      rintro e w5 ⟨rfl, b5⟩
      have hK5 := hKr.below b5
      go_upto_region 7 with (refine wpList_store_new (by rfl) 22 (.tmp 7) (.tmp 26) (by rfl) _ (B32 (bdig 1)) (by rfl) (by rfl) (B32_info _) (B32_sizes _ _) (B32_one _) (by rfl) ?_)
      have hK6 := hK5.alloc (B32 (bdig 1)) 22
      generalize w5.alloc (.cells (B32 (bdig 1)) 22) = w6 at *
      generalize w5.heap.size = bO at *
      go_wp2_with (first
        | refine wpList_load_own (by rfl) 22 (.tmp 7) (by rfl) bO (by rfl) (B32 (bdig 1)) _ hK6.h1 Tryd.underlying22 (by rfl) (B32_info _) ?_
        | refine wpList_load_own (by rfl) 22 (.tmp 5) (by rfl) bM (by rfl) (B32 (bdig mo)) _ hK6.h2 Tryd.underlying22 (by rfl) (B32_info _) ?_)
      refine (F.muladdA (by decide) hmo (by decide) Hv.out _ (F.keep _ _ hT hK6.2)).mono ?_
      rintro e w7 ⟨rfl, b7⟩
      have hK7 := hK6.below b7
      go_upto_region 8 with (refine wpList_store_new (by rfl) 22 (.tmp 8) (.tmp 30) (by rfl) _ (B32 (bdig v)) (by rfl) (by rfl) (B32_info _) (B32_sizes _ _) (B32_one _) (by rfl) ?_)
      have hKq := hK7.alloc (B32 (bdig v)) 22
      generalize w7.alloc (.cells (B32 (bdig v)) 22) = wq at *
      generalize w7.heap.size = bV at *
      clear hK7 hK6 hK5 hKr
      have hTq := F.keep _ _ hT hKq.2
      refine wp_region_stable 41 (by kernel_rfl) (by kernel_rfl) (by rfl) (fun i vv _ => vv = valWd z hi lo v y i) (fun _ _ _ _ _ h => h) ?_ ?_
      · intro L ac wc i o hF ho hd
        rcases i with _ | _ | _ | _ | _ | _ | _ | _ | _ | _ | _ | i
        · obtain rfl := Option.some.inj ho
          have f1 : ac.tmps.getD 1 undef = .pointer (some ⟨bW, 0, none⟩) := slot hF 1 (by kernel_rfl)
          refine ⟨wanted_free rfl, fun K hK => ?_⟩
          exact wp_load_own 23 (.tmp 1) rfl bW f1 (B64 (bdig z)) _ 23 ((hKq.below hF.cls).at bW (B64 (bdig z)) 23 (by simp)) Tryd.underlying23 rfl (B64_info _) (hK _ _ (Below.refl _ _) rfl)
        · obtain rfl := Option.some.inj ho
          have f31 : ac.tmps.getD 31 undef = .agg (B64 (bdig z)) := hF.fact 0 _ _ rfl rfl (dep hd 0 (by kernel_rfl))
          refine ⟨wanted_free rfl, fun K hK => ?_⟩
          unfold Oper.wp
          go_simp
          refine (F.wideA hz Hy.out _ (F.keep _ _ hTq hF.cls)).mono ?_
          rintro e w' ⟨rfl, hB⟩
          exact hK _ _ hB rfl
        · obtain rfl := Option.some.inj ho
          have f4 : ac.tmps.getD 4 undef = .pointer (some ⟨bH, 0, none⟩) := slot hF 4 (by kernel_rfl)
          refine ⟨wanted_free rfl, fun K hK => ?_⟩
          exact wp_load_own 22 (.tmp 4) rfl bH f4 (B32 (bdig hi)) _ 22 ((hKq.below hF.cls).at bH (B32 (bdig hi)) 22 (by simp)) Tryd.underlying22 rfl (B32_info _) (hK _ _ (Below.refl _ _) rfl)
        · obtain rfl := Option.some.inj ho
          have f8 : ac.tmps.getD 8 undef = .pointer (some ⟨bV, 0, none⟩) := slot hF 8 (by kernel_rfl)
          refine ⟨wanted_free rfl, fun K hK => ?_⟩
          exact wp_load_own 22 (.tmp 8) rfl bV f8 (B32 (bdig v)) _ 22 ((hKq.below hF.cls).at bV (B32 (bdig v)) 22 (by simp)) Tryd.underlying22 rfl (B32_info _) (hK _ _ (Below.refl _ _) rfl)
        · obtain rfl := Option.some.inj ho
          have f3 : ac.tmps.getD 3 undef = .pointer (some ⟨bL, 0, none⟩) := slot hF 3 (by kernel_rfl)
          refine ⟨wanted_free rfl, fun K hK => ?_⟩
          exact wp_load_own 22 (.tmp 3) rfl bL f3 (B32 (bdig lo)) _ 22 ((hKq.below hF.cls).at bL (B32 (bdig lo)) 22 (by simp)) Tryd.underlying22 rfl (B32_info _) (hK _ _ (Below.refl _ _) rfl)
        · obtain rfl := Option.some.inj ho
          have f33 : ac.tmps.getD 33 undef = .agg (B32 (bdig hi)) := hF.fact 2 _ _ rfl rfl (dep hd 2 (by kernel_rfl))
          have f34 : ac.tmps.getD 34 undef = .agg (B32 (bdig v)) := hF.fact 3 _ _ rfl rfl (dep hd 3 (by kernel_rfl))
          have f35 : ac.tmps.getD 35 undef = .agg (B32 (bdig lo)) := hF.fact 4 _ _ rfl rfl (dep hd 4 (by kernel_rfl))
          refine ⟨wanted_free rfl, fun K hK => ?_⟩
          unfold Oper.wp
          go_simp
          refine (F.muladdA hhi hv hlo Hy2.out _ (F.keep _ _ hTq hF.cls)).mono ?_
          rintro e w' ⟨rfl, hB⟩
          exact hK _ _ hB rfl
        · obtain rfl := Option.some.inj ho
          have f32 : ac.tmps.getD 32 undef = .agg (B32 (bdig y)) := hF.fact 1 _ _ rfl rfl (dep hd 1 (by kernel_rfl))
          have f36 : ac.tmps.getD 36 undef = .agg (B32 (bdig y)) := hF.fact 5 _ _ rfl rfl (dep hd 5 (by kernel_rfl))
          refine ⟨wanted_free rfl, fun K hK => ?_⟩
          unfold Oper.wp
          go_simp
          exact hK _ _ (Below.refl _ _) rfl
        · obtain rfl := Option.some.inj ho
          have f37 : ac.tmps.getD 37 undef = .bool true := hF.fact 6 _ _ rfl rfl (dep hd 6 (by kernel_rfl))
          refine ⟨wanted_free rfl, fun K hK => ?_⟩
          unfold Oper.wp
          go_simp
          exact hK _ _ (Below.refl _ _) rfl
        · obtain rfl := Option.some.inj ho
          have fg : ac.tmps.getD 38 undef = .bool true := hF.fact 7 _ _ rfl rfl (dep hd 7 (by kernel_rfl))
          refine ⟨wanted_true (g := 7) rfl rfl rfl fg, fun K hK => ?_⟩
          unfold Oper.wp
          go_simp
          refine (swakes_any F.toSclT _ (F.keep _ _ hTq hF.cls)).mono ?_
          rintro e w' ⟨rfl, hB⟩
          exact hK _ _ hB rfl
        · obtain rfl := Option.some.inj ho
          have f38 : ac.tmps.getD 38 undef = .bool true := hF.fact 7 _ _ rfl rfl (dep hd 7 (by kernel_rfl))
          have f39 : ac.tmps.getD 39 undef = .bool true := hF.fact 8 _ _ rfl rfl (dep hd 8 (by kernel_rfl))
          refine ⟨wanted_free rfl, fun K hK => ?_⟩
          unfold Oper.wp
          go_simp
          exact hK _ _ (Below.refl _ _) rfl
        · obtain rfl := Option.some.inj ho
          have f40 : ac.tmps.getD 40 undef = .bool true := hF.fact 9 _ _ rfl rfl (dep hd 9 (by kernel_rfl))
          refine ⟨wanted_free rfl, fun K hK => ?_⟩
          unfold Oper.wp
          go_simp
          exact hK _ _ (Below.refl _ _) rfl
        · cases ho
      · intro L ac wc hL hF
        have fe : ac.tmps.getD 2 undef = .bool true := hF.fact 10 _ 2 rfl rfl (hL 10 (by decide))
        have hb' := (hKq.below hF.cls).2
        go_wp2
        exact bodyPost_ret (results_tmp rfl _ _ _) hF.defers ⟨by rw [fe], hb'⟩
end Go.Proofs.YtofoihebhdpjlaaDoor
