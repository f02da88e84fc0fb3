/- The walk of the law ScalarLaws, over the program's functions by their contracts. -/
import Derived.Test.YtofoihebhdpjlaaDoorS3
namespace Go.Proofs.YtofoihebhdpjlaaDoor
open Go.RowKit
theorem all_left (a b c : Nat) : (a % LL * (b % LL) + c % LL) % LL = (a * b + c) % LL := by rw [Nat.add_mod_mod, Nat.add_mod, ← Nat.mul_mod, ← Nat.add_mod]
theorem l_mul (a c : Nat) : (a * LL + c) % LL = c % LL := by rw [Nat.mul_comm]; exact Nat.mul_add_mod _ _ _
theorem l_all (b : Nat) : (LL * b + LL) % LL = 0 := by rw [Nat.mul_add_mod, Nat.mod_self]
theorem bdig_top {a j : Nat} (ha : a < R256) (hj : 32 ≤ j) : bdig a j = 0 := by
  unfold bdig
  have h1 : (256 : Nat) ^ 32 ≤ 256 ^ j := Nat.pow_le_pow_right (by decide) hj
  have h2 : a < 256 ^ j := Nat.lt_of_lt_of_le (show a < 256 ^ 32 from ha) h1
  rw [Nat.div_eq_of_lt h2, Nat.zero_mod]
def valLw (a b c x s p q l : Nat) : Nat → Value
  | 0 => .agg (B32 (bdig x))
  | 3 => .agg (B32 (bdig x))
  | 4 => .agg (B32 (bdig x))
  | 5 => .agg (B32 (bdig x))
  | 9 => .agg (B64 (bdig a))
  | 10 => .agg (B32 (bdig x))
  | 11 => .agg (B32 (bdig x))
  | 15 => .agg (B32 (bdig a))
  | 16 => .agg (B32 (bdig b))
  | 17 => .agg (B32 (bdig c))
  | 18 => .agg (B32 (bdig s))
  | 19 => .agg (B32 (bdig b))
  | 20 => .agg (B32 (bdig a))
  | 21 => .agg (B32 (bdig c))
  | 22 => .agg (B32 (bdig s))
  | 26 => .agg (B32 (bdig a))
  | 27 => .func (Fn.func 17) #[] #[]
  | 28 => .agg (B32 (bdig 1))
  | 29 => .func (Fn.func 17) #[] #[]
  | 30 => .agg (B32 (bdig 0))
  | 31 => .agg (B32 (bdig x))
  | 32 => .agg (B32 (bdig x))
  | 36 => .func (Fn.func 17) #[] #[]
  | 37 => .agg (B32 (bdig 0))
  | 38 => .agg (B32 (bdig b))
  | 39 => .agg (B32 (bdig a))
  | 40 => .agg (B32 (bdig x))
  | 41 => .agg (B32 (bdig x))
  | 45 => .agg (B32 (bdig a))
  | 46 => .agg (B32 (bdig l))
  | 47 => .agg (B32 (bdig c))
  | 48 => .agg (B32 (bdig q))
  | 49 => .agg (B32 (bdig c))
  | 50 => .agg (B32 (bdig q))
  | 54 => .agg (B32 (bdig l))
  | 55 => .agg (B32 (bdig b))
  | 56 => .agg (B32 (bdig l))
  | 57 => .agg (B32 (bdig 0))
  | 58 => .func (Fn.func 17) #[] #[]
  | 59 => .agg (B32 (bdig 0))
  | 63 => .agg (B32 (bdig a))
  | 64 => .agg (B32 (bdig b))
  | 65 => .agg (B32 (bdig c))
  | 66 => .agg (B32 (bdig s))
  | 67 => .agg (B32 (bdig x))
  | 68 => .agg (B32 (bdig b))
  | 69 => .agg (B32 (bdig p))
  | 70 => .agg (B32 (bdig c))
  | 71 => .agg (B32 (bdig q))
  | 72 => .agg (B32 (bdig s))
  | 76 => .agg (B32 (bdig a))
  | 77 => .agg (B32 (bdig b))
  | 78 => .agg (B32 (bdig c))
  | 79 => .agg (B32 (bdig s))
  | _ => .bool true

set_option maxRecDepth 100000 in
set_option maxHeartbeats 16000000 in
theorem slaws_any {T : World → Prop} (F : Scl T) (a b c : Nat) (ha : a < R256) (hb : b < R256) (hc : c < R256) (w : World) (hT : T w) : Calls Tryd.prog 4 #[.agg (B32 (bdig a)), .agg (B32 (bdig b)), .agg (B32 (bdig c))] w fun x w' => x = .returned (.bool true) ∧ Below w.heap.size w w' := by
  have hz := (zero_of_info zeroB32).1
  have hz64 := (zero_of_info zeroB64).1
  have h0 : 0 < R256 := by decide
  have h1 : 1 < R256 := by decide
  have haR : a < R512 := Nat.lt_trans ha (by decide)
  obtain ⟨x, Hx⟩ : ∃ x, Hid (a % LL = x) := ⟨_, rfl⟩
  have hx : x < R256 := by rw [← Hx.out]; exact lt_of_modL
  obtain ⟨s, Hs⟩ : ∃ x, Hid ((a * b + c) % LL = x) := ⟨_, rfl⟩
  have hs : s < R256 := by rw [← Hs.out]; exact lt_of_modL
  obtain ⟨p, Hp⟩ : ∃ x, Hid (b % LL = x) := ⟨_, rfl⟩
  have hp : p < R256 := by rw [← Hp.out]; exact lt_of_modL
  obtain ⟨q, Hq⟩ : ∃ x, Hid (c % LL = x) := ⟨_, rfl⟩
  have hq : q < R256 := by rw [← Hq.out]; exact lt_of_modL
  obtain ⟨l, Hl⟩ : ∃ l, Hid (LL = l) := ⟨_, rfl⟩
  have hl : l < R256 := by rw [← Hl.out]; exact LL_lt
  have hxL : Hid (x < LL) := by show _ < _; rw [← Hx.out]; exact Nat.mod_lt _ LL_pos
  have hsL : Hid (s < LL) := by show _ < _; rw [← Hs.out]; exact Nat.mod_lt _ LL_pos
  have Hxx : Hid (x % LL = x) := Nat.mod_eq_of_lt hxL.out
  have Hs1 : Hid ((b * a + c) % LL = s) := by show _ = _; rw [Nat.mul_comm]; exact Hs.out
  have Hx1 : Hid ((a * 1 + 0) % LL = x) := by show _ = _; rw [Nat.mul_one, Nat.add_zero]; exact Hx.out
  have Hx2 : Hid ((0 * b + a) % LL = x) := by show _ = _; rw [Nat.zero_mul, Nat.zero_add]; exact Hx.out
  have Hq2 : Hid ((a * l + c) % LL = q) := by show _ = _; rw [← Hl.out, l_mul]; exact Hq.out
  have Hl0 : Hid ((l * b + l) % LL = 0) := by show _ = _; rw [← Hl.out]; exact l_all b
  have Hs2 : Hid ((x * p + q) % LL = s) := by show _ = _; rw [← Hx.out, ← Hp.out, ← Hq.out, all_left]; exact Hs.out
  have same_x := B32_same x hx
  have same_s := B32_same s hs
  have same_q := B32_same q hq
  have same_0 := B32_same 0 (by decide)
  go_enter Tryd.func4, Tryd.ntmps4
  go_upto_region 2 with fail
  have hK := (((Kp.nil w).alloc (B32 (bdig a)) 22).alloc (B32 (bdig b)) 22).alloc (B32 (bdig c)) 22
  rw [World.size_alloc, World.size_alloc] at hK
  generalize ((w.alloc (.cells (B32 (bdig a)) 22)).alloc (.cells (B32 (bdig b)) 22)).alloc (.cells (B32 (bdig c)) 22) = W0 at *
  obtain ⟨bA, H1⟩ : ∃ bA, Hid (w.heap.size = bA) := ⟨_, rfl⟩
  obtain ⟨bB, H2⟩ : ∃ bB, Hid (bA + 1 = bB) := ⟨_, rfl⟩
  obtain ⟨bC, H3⟩ : ∃ bC, Hid (bB + 1 = bC) := ⟨_, rfl⟩
  rw [H1.out, H2.out, H3.out] at hK ⊢
  go_wp2_with (refine wpList_load_own (by rfl) 22 (.tmp 3) (by rfl) bA (by rfl) (B32 (bdig a)) _ hK.h3 Tryd.underlying22 (by rfl) (B32_info _) ?_)
  refine (F.modA ha Hx.out W0 (F.keep _ _ hT hK.2)).mono ?_
  rintro r w1 ⟨rfl, b1⟩
  have hK := hK.below b1
  go_upto_region 3 with (refine wpList_store_new (by rfl) 22 (.tmp 8) (.tmp 13) (by rfl) _ (B32 (bdig x)) (by rfl) (by rfl) (B32_info _) (B32_sizes _ _) (B32_one _) (by rfl) ?_)
  have hK := hK.alloc (B32 (bdig x)) 22
  generalize w1.alloc (.cells (B32 (bdig x)) 22) = w2 at *
  generalize w1.heap.size = bX at *
  go_upto_region 4 with fail
  have hK4 := hK.alloc (B64 fun _ => 0) 23
  have hle := hK.2.size
  have m1 := hK.h1.lt
  have m2 := hK.h2.lt
  have m3 := hK.h3.lt
  have m4 := hK.h4.lt
  generalize w2.alloc (.cells (B64 fun _ => 0) 23) = w3 at *
  generalize w2.heap.size = bW at *
  have hnot : ∀ q ∈ [(bX, B32 (bdig x), 22), (bC, B32 (bdig c), 22), (bB, B32 (bdig b), 22), (bA, B32 (bdig a), 22)], q.1 ≠ bW := by simp; omega
  clear hK m1 m2 m3 m4
  go_wp2_with fail
  go_loopw [10] (fun ii wr => ∃ (k : Nat) (h : Nat → Nat), k ≤ 32 ∧ ii = .int .i64 (k : Int) ∧ (∀ j, j < k → h j = bdig a j) ∧ (∀ j, 32 ≤ j → h j = 0) ∧ Kp [(bW, B64 h, 23), (bX, B32 (bdig x), 22), (bC, B32 (bdig c), 22), (bB, B32 (bdig b), 22), (bA, B32 (bdig a), 22)] w wr) (fun ii _ => 32 - (intOf ii).toNat)
  case atStart => exact ⟨0, fun _ => 0, by omega, rfl, fun j hj => by omega, fun _ _ => rfl, hK4⟩
  case round =>
    obtain ⟨k, h, hk, rfl, hh, hh0, hKr⟩ := hrel
    have hk0 : (0 : Int) ≤ (k : Int) := by omega
    by_cases hlt : k < 32
    · have hki : (k : Int) < 32 := by omega
      have cA := (hKr.at bA (B32 (bdig a)) 22 (by simp)).cell (B32_at (bdig a) k hlt)
      have cW := hKr.h1.cell (B64_at h k (by omega))
      have fW := hKr.h1.frozen k
      have hK5 := Kp.setCell (i := k) (v := .int .u8 (bdig a k : Int)) hKr hnot hle
      rw [B64_set h k (bdig a k) (by omega)] at hK5
      have HK5 := show Hid _ from hK5
      clear hK5
      have Hup : Hid ((∀ j, j < k + 1 → upd h k (bdig a k) j = bdig a j) ∧ (∀ j, 32 ≤ j → upd h k (bdig a k) j = 0)) := by
        refine ⟨fun j hj => ?_, fun j hj => ?_⟩
        · by_cases e : j = k
          · rw [e, upd_same]
          · rw [upd_other _ _ _ _ e]; exact hh j (by omega)
        · rw [upd_other _ _ _ _ (by omega)]; exact hh0 j hj
      generalize hUU : upd h k (bdig a k) = u at HK5 Hup
      clear hUU
      generalize bdig a k = v at cA HK5
      go_wp2_with fail
      exact ⟨⟨k + 1, u, by omega, by go_num, Hup.out.1, Hup.out.2, HK5.out⟩, by simp [intOf]; omega⟩
    · have hki : ¬ (k : Int) < 32 := by omega
      have He : B64 h = B64 (bdig a) := B64_ext fun i hi => by
        by_cases h32 : i < 32
        · exact hh i (by omega)
        · rw [hh0 i (by omega), bdig_top ha (by omega)]
      rw [He] at hKr
      clear He hh hh0 hK4
      go_wp2_with fail
      refine (L_any _).mono ?_
      rintro e w5 ⟨rfl, b5⟩
      rw [Hl.out]
      have hK5 := hKr.below b5
      go_wp2_with fail
      refine (bytesOf_any l _).mono ?_
      rintro e w6 ⟨rfl, b6⟩
      have hK6 := hK5.below b6
      go_upto_region 9 with (refine wpList_store_new (by rfl) 22 (.tmp 11) (.tmp 24) (by rfl) _ (B32 (bdig l)) (by rfl) (by rfl) (B32_info _) (B32_sizes _ _) (B32_one _) (by rfl) ?_)
      have hKq := hK6.alloc (B32 (bdig l)) 22
      generalize w6.alloc (.cells (B32 (bdig l)) 22) = wq at *
      generalize w6.heap.size = bL at *
      clear hK6 hK5 hKr
      have hTq := F.keep _ _ hT hKq.2
      refine wp_region_stable 110 (by kernel_rfl) (by kernel_rfl) (by rfl) (fun i vv _ => vv = valLw a b c x s p q l i) (fun _ _ _ _ _ h => h) ?_ ?_
      · intro L ac wc i o hF ho hd
        rcases i with _ | _ | _ | _ | _ | _ | _ | _ | _ | _ | _ | _ | _ | _ | _ | _ | _ | _ | _ | _ | _ | _ | _ | _ | _ | _ | _ | _ | _ | _ | _ | _ | _ | _ | _ | _ | _ | _ | _ | _ | _ | _ | _ | _ | _ | _ | _ | _ | _ | _ | _ | _ | _ | _ | _ | _ | _ | _ | _ | _ | _ | _ | _ | _ | _ | _ | _ | _ | _ | _ | _ | _ | _ | _ | _ | _ | _ | _ | _ | _ | _ | _ | _ | _ | _ | _ | i
        · obtain rfl := Option.some.inj ho
          have f8 : ac.tmps.getD 8 undef = .pointer (some ⟨bX, 0, none⟩) := slot hF 8 (by kernel_rfl)
          refine ⟨wanted_free rfl, fun K hK => ?_⟩
          exact wp_load_own 22 (.tmp 8) rfl bX f8 (B32 (bdig x)) _ 22 ((hKq.below hF.cls).at bX (B32 (bdig x)) 22 (by simp)) Tryd.underlying22 rfl (B32_info _) (hK _ _ (Below.refl _ _) rfl)
        · obtain rfl := Option.some.inj ho
          have f25 : ac.tmps.getD 25 undef = .agg (B32 (bdig x)) := hF.fact 0 _ _ rfl rfl (dep hd 0 (by kernel_rfl))
          refine ⟨wanted_free rfl, fun K hK => ?_⟩
          unfold Oper.wp
          go_simp
          refine (F.check x hx _ (F.keep _ _ hTq hF.cls)).mono ?_
          rintro e w' ⟨rfl, hB⟩
          rw [decide_eq_true hxL.out]
          exact hK _ _ hB rfl
        · obtain rfl := Option.some.inj ho
          have f26 : ac.tmps.getD 26 undef = .bool true := hF.fact 1 _ _ rfl rfl (dep hd 1 (by kernel_rfl))
          refine ⟨wanted_free rfl, fun K hK => ?_⟩
          unfold Oper.wp
          go_simp
          exact hK _ _ (Below.refl _ _) rfl
        · obtain rfl := Option.some.inj ho
          have f8 : ac.tmps.getD 8 undef = .pointer (some ⟨bX, 0, none⟩) := slot hF 8 (by kernel_rfl)
          have fg : ac.tmps.getD 27 undef = .bool true := hF.fact 2 _ _ rfl rfl (dep hd 2 (by kernel_rfl))
          refine ⟨wanted_true (g := 2) rfl rfl rfl fg, fun K hK => ?_⟩
          exact wp_load_own 22 (.tmp 8) rfl bX f8 (B32 (bdig x)) _ 22 ((hKq.below hF.cls).at bX (B32 (bdig x)) 22 (by simp)) Tryd.underlying22 rfl (B32_info _) (hK _ _ (Below.refl _ _) rfl)
        · obtain rfl := Option.some.inj ho
          have f28 : ac.tmps.getD 28 undef = .agg (B32 (bdig x)) := hF.fact 3 _ _ rfl rfl (dep hd 3 (by kernel_rfl))
          have fg : ac.tmps.getD 27 undef = .bool true := hF.fact 2 _ _ rfl rfl (dep hd 2 (by kernel_rfl))
          refine ⟨wanted_true (g := 2) rfl rfl rfl fg, fun K hK => ?_⟩
          unfold Oper.wp
          go_simp
          refine (F.modA hx Hxx.out _ (F.keep _ _ hTq hF.cls)).mono ?_
          rintro e w' ⟨rfl, hB⟩
          exact hK _ _ hB rfl
        · obtain rfl := Option.some.inj ho
          have f8 : ac.tmps.getD 8 undef = .pointer (some ⟨bX, 0, none⟩) := slot hF 8 (by kernel_rfl)
          have fg : ac.tmps.getD 27 undef = .bool true := hF.fact 2 _ _ rfl rfl (dep hd 2 (by kernel_rfl))
          refine ⟨wanted_true (g := 2) rfl rfl rfl fg, fun K hK => ?_⟩
          exact wp_load_own 22 (.tmp 8) rfl bX f8 (B32 (bdig x)) _ 22 ((hKq.below hF.cls).at bX (B32 (bdig x)) 22 (by simp)) Tryd.underlying22 rfl (B32_info _) (hK _ _ (Below.refl _ _) rfl)
        · obtain rfl := Option.some.inj ho
          have f29 : ac.tmps.getD 29 undef = .agg (B32 (bdig x)) := hF.fact 4 _ _ rfl rfl (dep hd 4 (by kernel_rfl))
          have f30 : ac.tmps.getD 30 undef = .agg (B32 (bdig x)) := hF.fact 5 _ _ rfl rfl (dep hd 5 (by kernel_rfl))
          have fg : ac.tmps.getD 27 undef = .bool true := hF.fact 2 _ _ rfl rfl (dep hd 2 (by kernel_rfl))
          refine ⟨wanted_true (g := 2) rfl rfl rfl fg, fun K hK => ?_⟩
          unfold Oper.wp
          go_simp
          exact hK _ _ (Below.refl _ _) rfl
        · obtain rfl := Option.some.inj ho
          have f27 : ac.tmps.getD 27 undef = .bool true := hF.fact 2 _ _ rfl rfl (dep hd 2 (by kernel_rfl))
          have f31 : ac.tmps.getD 31 undef = .bool true := hF.fact 6 _ _ rfl rfl (dep hd 6 (by kernel_rfl))
          refine ⟨wanted_free rfl, fun K hK => ?_⟩
          unfold Oper.wp
          go_simp
          exact hK _ _ (Below.refl _ _) rfl
        · obtain rfl := Option.some.inj ho
          have f32 : ac.tmps.getD 32 undef = .bool true := hF.fact 7 _ _ rfl rfl (dep hd 7 (by kernel_rfl))
          refine ⟨wanted_free rfl, fun K hK => ?_⟩
          unfold Oper.wp
          go_simp
          exact hK _ _ (Below.refl _ _) rfl
        · obtain rfl := Option.some.inj ho
          have f9 : ac.tmps.getD 9 undef = .pointer (some ⟨bW, 0, none⟩) := slot hF 9 (by kernel_rfl)
          have fg : ac.tmps.getD 33 undef = .bool true := hF.fact 8 _ _ rfl rfl (dep hd 8 (by kernel_rfl))
          refine ⟨wanted_true (g := 8) rfl rfl rfl fg, fun K hK => ?_⟩
          exact wp_load_own 23 (.tmp 9) rfl bW f9 (B64 (bdig a)) _ 23 ((hKq.below hF.cls).at bW (B64 (bdig a)) 23 (by simp)) Tryd.underlying23 rfl (B64_info _) (hK _ _ (Below.refl _ _) rfl)
        · obtain rfl := Option.some.inj ho
          have f34 : ac.tmps.getD 34 undef = .agg (B64 (bdig a)) := hF.fact 9 _ _ rfl rfl (dep hd 9 (by kernel_rfl))
          have fg : ac.tmps.getD 33 undef = .bool true := hF.fact 8 _ _ rfl rfl (dep hd 8 (by kernel_rfl))
          refine ⟨wanted_true (g := 8) rfl rfl rfl fg, fun K hK => ?_⟩
          unfold Oper.wp
          go_simp
          refine (F.wideA haR Hx.out _ (F.keep _ _ hTq hF.cls)).mono ?_
          rintro e w' ⟨rfl, hB⟩
          exact hK _ _ hB rfl
        · obtain rfl := Option.some.inj ho
          have f8 : ac.tmps.getD 8 undef = .pointer (some ⟨bX, 0, none⟩) := slot hF 8 (by kernel_rfl)
          have fg : ac.tmps.getD 33 undef = .bool true := hF.fact 8 _ _ rfl rfl (dep hd 8 (by kernel_rfl))
          refine ⟨wanted_true (g := 8) rfl rfl rfl fg, fun K hK => ?_⟩
          exact wp_load_own 22 (.tmp 8) rfl bX f8 (B32 (bdig x)) _ 22 ((hKq.below hF.cls).at bX (B32 (bdig x)) 22 (by simp)) Tryd.underlying22 rfl (B32_info _) (hK _ _ (Below.refl _ _) rfl)
        · obtain rfl := Option.some.inj ho
          have f35 : ac.tmps.getD 35 undef = .agg (B32 (bdig x)) := hF.fact 10 _ _ rfl rfl (dep hd 10 (by kernel_rfl))
          have f36 : ac.tmps.getD 36 undef = .agg (B32 (bdig x)) := hF.fact 11 _ _ rfl rfl (dep hd 11 (by kernel_rfl))
          have fg : ac.tmps.getD 33 undef = .bool true := hF.fact 8 _ _ rfl rfl (dep hd 8 (by kernel_rfl))
          refine ⟨wanted_true (g := 8) rfl rfl rfl fg, fun K hK => ?_⟩
          unfold Oper.wp
          go_simp
          exact hK _ _ (Below.refl _ _) rfl
        · obtain rfl := Option.some.inj ho
          have f33 : ac.tmps.getD 33 undef = .bool true := hF.fact 8 _ _ rfl rfl (dep hd 8 (by kernel_rfl))
          have f37 : ac.tmps.getD 37 undef = .bool true := hF.fact 12 _ _ rfl rfl (dep hd 12 (by kernel_rfl))
          refine ⟨wanted_free rfl, fun K hK => ?_⟩
          unfold Oper.wp
          go_simp
          exact hK _ _ (Below.refl _ _) rfl
        · obtain rfl := Option.some.inj ho
          have f38 : ac.tmps.getD 38 undef = .bool true := hF.fact 13 _ _ rfl rfl (dep hd 13 (by kernel_rfl))
          refine ⟨wanted_free rfl, fun K hK => ?_⟩
          unfold Oper.wp
          go_simp
          exact hK _ _ (Below.refl _ _) rfl
        · obtain rfl := Option.some.inj ho
          have f3 : ac.tmps.getD 3 undef = .pointer (some ⟨bA, 0, none⟩) := slot hF 3 (by kernel_rfl)
          have fg : ac.tmps.getD 39 undef = .bool true := hF.fact 14 _ _ rfl rfl (dep hd 14 (by kernel_rfl))
          refine ⟨wanted_true (g := 14) rfl rfl rfl fg, fun K hK => ?_⟩
          exact wp_load_own 22 (.tmp 3) rfl bA f3 (B32 (bdig a)) _ 22 ((hKq.below hF.cls).at bA (B32 (bdig a)) 22 (by simp)) Tryd.underlying22 rfl (B32_info _) (hK _ _ (Below.refl _ _) rfl)
        · obtain rfl := Option.some.inj ho
          have f4 : ac.tmps.getD 4 undef = .pointer (some ⟨bB, 0, none⟩) := slot hF 4 (by kernel_rfl)
          have fg : ac.tmps.getD 39 undef = .bool true := hF.fact 14 _ _ rfl rfl (dep hd 14 (by kernel_rfl))
          refine ⟨wanted_true (g := 14) rfl rfl rfl fg, fun K hK => ?_⟩
          exact wp_load_own 22 (.tmp 4) rfl bB f4 (B32 (bdig b)) _ 22 ((hKq.below hF.cls).at bB (B32 (bdig b)) 22 (by simp)) Tryd.underlying22 rfl (B32_info _) (hK _ _ (Below.refl _ _) rfl)
        · obtain rfl := Option.some.inj ho
          have f5 : ac.tmps.getD 5 undef = .pointer (some ⟨bC, 0, none⟩) := slot hF 5 (by kernel_rfl)
          have fg : ac.tmps.getD 39 undef = .bool true := hF.fact 14 _ _ rfl rfl (dep hd 14 (by kernel_rfl))
          refine ⟨wanted_true (g := 14) rfl rfl rfl fg, fun K hK => ?_⟩
          exact wp_load_own 22 (.tmp 5) rfl bC f5 (B32 (bdig c)) _ 22 ((hKq.below hF.cls).at bC (B32 (bdig c)) 22 (by simp)) Tryd.underlying22 rfl (B32_info _) (hK _ _ (Below.refl _ _) rfl)
        · obtain rfl := Option.some.inj ho
          have f40 : ac.tmps.getD 40 undef = .agg (B32 (bdig a)) := hF.fact 15 _ _ rfl rfl (dep hd 15 (by kernel_rfl))
          have f41 : ac.tmps.getD 41 undef = .agg (B32 (bdig b)) := hF.fact 16 _ _ rfl rfl (dep hd 16 (by kernel_rfl))
          have f42 : ac.tmps.getD 42 undef = .agg (B32 (bdig c)) := hF.fact 17 _ _ rfl rfl (dep hd 17 (by kernel_rfl))
          have fg : ac.tmps.getD 39 undef = .bool true := hF.fact 14 _ _ rfl rfl (dep hd 14 (by kernel_rfl))
          refine ⟨wanted_true (g := 14) rfl rfl rfl fg, fun K hK => ?_⟩
          unfold Oper.wp
          go_simp
          refine (F.muladdA ha hb hc Hs.out _ (F.keep _ _ hTq hF.cls)).mono ?_
          rintro e w' ⟨rfl, hB⟩
          exact hK _ _ hB rfl
        · obtain rfl := Option.some.inj ho
          have f4 : ac.tmps.getD 4 undef = .pointer (some ⟨bB, 0, none⟩) := slot hF 4 (by kernel_rfl)
          have fg : ac.tmps.getD 39 undef = .bool true := hF.fact 14 _ _ rfl rfl (dep hd 14 (by kernel_rfl))
          refine ⟨wanted_true (g := 14) rfl rfl rfl fg, fun K hK => ?_⟩
          exact wp_load_own 22 (.tmp 4) rfl bB f4 (B32 (bdig b)) _ 22 ((hKq.below hF.cls).at bB (B32 (bdig b)) 22 (by simp)) Tryd.underlying22 rfl (B32_info _) (hK _ _ (Below.refl _ _) rfl)
        · obtain rfl := Option.some.inj ho
          have f3 : ac.tmps.getD 3 undef = .pointer (some ⟨bA, 0, none⟩) := slot hF 3 (by kernel_rfl)
          have fg : ac.tmps.getD 39 undef = .bool true := hF.fact 14 _ _ rfl rfl (dep hd 14 (by kernel_rfl))
          refine ⟨wanted_true (g := 14) rfl rfl rfl fg, fun K hK => ?_⟩
          exact wp_load_own 22 (.tmp 3) rfl bA f3 (B32 (bdig a)) _ 22 ((hKq.below hF.cls).at bA (B32 (bdig a)) 22 (by simp)) Tryd.underlying22 rfl (B32_info _) (hK _ _ (Below.refl _ _) rfl)
        · obtain rfl := Option.some.inj ho
          have f5 : ac.tmps.getD 5 undef = .pointer (some ⟨bC, 0, none⟩) := slot hF 5 (by kernel_rfl)
          have fg : ac.tmps.getD 39 undef = .bool true := hF.fact 14 _ _ rfl rfl (dep hd 14 (by kernel_rfl))
          refine ⟨wanted_true (g := 14) rfl rfl rfl fg, fun K hK => ?_⟩
          exact wp_load_own 22 (.tmp 5) rfl bC f5 (B32 (bdig c)) _ 22 ((hKq.below hF.cls).at bC (B32 (bdig c)) 22 (by simp)) Tryd.underlying22 rfl (B32_info _) (hK _ _ (Below.refl _ _) rfl)
        · obtain rfl := Option.some.inj ho
          have f44 : ac.tmps.getD 44 undef = .agg (B32 (bdig b)) := hF.fact 19 _ _ rfl rfl (dep hd 19 (by kernel_rfl))
          have f45 : ac.tmps.getD 45 undef = .agg (B32 (bdig a)) := hF.fact 20 _ _ rfl rfl (dep hd 20 (by kernel_rfl))
          have f46 : ac.tmps.getD 46 undef = .agg (B32 (bdig c)) := hF.fact 21 _ _ rfl rfl (dep hd 21 (by kernel_rfl))
          have fg : ac.tmps.getD 39 undef = .bool true := hF.fact 14 _ _ rfl rfl (dep hd 14 (by kernel_rfl))
          refine ⟨wanted_true (g := 14) rfl rfl rfl fg, fun K hK => ?_⟩
          unfold Oper.wp
          go_simp
          refine (F.muladdA hb ha hc Hs1.out _ (F.keep _ _ hTq hF.cls)).mono ?_
          rintro e w' ⟨rfl, hB⟩
          exact hK _ _ hB rfl
        · obtain rfl := Option.some.inj ho
          have f43 : ac.tmps.getD 43 undef = .agg (B32 (bdig s)) := hF.fact 18 _ _ rfl rfl (dep hd 18 (by kernel_rfl))
          have f47 : ac.tmps.getD 47 undef = .agg (B32 (bdig s)) := hF.fact 22 _ _ rfl rfl (dep hd 22 (by kernel_rfl))
          have fg : ac.tmps.getD 39 undef = .bool true := hF.fact 14 _ _ rfl rfl (dep hd 14 (by kernel_rfl))
          refine ⟨wanted_true (g := 14) rfl rfl rfl fg, fun K hK => ?_⟩
          unfold Oper.wp
          go_simp
          exact hK _ _ (Below.refl _ _) rfl
        · obtain rfl := Option.some.inj ho
          have f39 : ac.tmps.getD 39 undef = .bool true := hF.fact 14 _ _ rfl rfl (dep hd 14 (by kernel_rfl))
          have f48 : ac.tmps.getD 48 undef = .bool true := hF.fact 23 _ _ rfl rfl (dep hd 23 (by kernel_rfl))
          refine ⟨wanted_free rfl, fun K hK => ?_⟩
          unfold Oper.wp
          go_simp
          exact hK _ _ (Below.refl _ _) rfl
        · obtain rfl := Option.some.inj ho
          have f49 : ac.tmps.getD 49 undef = .bool true := hF.fact 24 _ _ rfl rfl (dep hd 24 (by kernel_rfl))
          refine ⟨wanted_free rfl, fun K hK => ?_⟩
          unfold Oper.wp
          go_simp
          exact hK _ _ (Below.refl _ _) rfl
        · obtain rfl := Option.some.inj ho
          have f3 : ac.tmps.getD 3 undef = .pointer (some ⟨bA, 0, none⟩) := slot hF 3 (by kernel_rfl)
          have fg : ac.tmps.getD 50 undef = .bool true := hF.fact 25 _ _ rfl rfl (dep hd 25 (by kernel_rfl))
          refine ⟨wanted_true (g := 25) rfl rfl rfl fg, fun K hK => ?_⟩
          exact wp_load_own 22 (.tmp 3) rfl bA f3 (B32 (bdig a)) _ 22 ((hKq.below hF.cls).at bA (B32 (bdig a)) 22 (by simp)) Tryd.underlying22 rfl (B32_info _) (hK _ _ (Below.refl _ _) rfl)
        · obtain rfl := Option.some.inj ho
          have f7 : ac.tmps.getD 7 undef = .func (Fn.func 17) #[] #[] := slot hF 7 (by kernel_rfl)
          have fg : ac.tmps.getD 50 undef = .bool true := hF.fact 25 _ _ rfl rfl (dep hd 25 (by kernel_rfl))
          refine ⟨wanted_true (g := 25) rfl rfl rfl fg, fun K hK => ?_⟩
          unfold Oper.wp
          go_simp
          exact hK _ _ (Below.refl _ _) rfl
        · obtain rfl := Option.some.inj ho
          have f52 : ac.tmps.getD 52 undef = .func (Fn.func 17) #[] #[] := hF.fact 27 _ _ rfl rfl (dep hd 27 (by kernel_rfl))
          have fg : ac.tmps.getD 50 undef = .bool true := hF.fact 25 _ _ rfl rfl (dep hd 25 (by kernel_rfl))
          refine ⟨wanted_true (g := 25) rfl rfl rfl fg, fun K hK => ?_⟩
          unfold Oper.wp
          go_simp
          refine (num_any 1 (by decide) _).mono ?_
          rintro e w' ⟨rfl, hB⟩
          exact hK _ _ hB rfl
        · obtain rfl := Option.some.inj ho
          have f7 : ac.tmps.getD 7 undef = .func (Fn.func 17) #[] #[] := slot hF 7 (by kernel_rfl)
          have fg : ac.tmps.getD 50 undef = .bool true := hF.fact 25 _ _ rfl rfl (dep hd 25 (by kernel_rfl))
          refine ⟨wanted_true (g := 25) rfl rfl rfl fg, fun K hK => ?_⟩
          unfold Oper.wp
          go_simp
          exact hK _ _ (Below.refl _ _) rfl
        · obtain rfl := Option.some.inj ho
          have f54 : ac.tmps.getD 54 undef = .func (Fn.func 17) #[] #[] := hF.fact 29 _ _ rfl rfl (dep hd 29 (by kernel_rfl))
          have fg : ac.tmps.getD 50 undef = .bool true := hF.fact 25 _ _ rfl rfl (dep hd 25 (by kernel_rfl))
          refine ⟨wanted_true (g := 25) rfl rfl rfl fg, fun K hK => ?_⟩
          unfold Oper.wp
          go_simp
          refine (num_any 0 (by decide) _).mono ?_
          rintro e w' ⟨rfl, hB⟩
          exact hK _ _ hB rfl
        · obtain rfl := Option.some.inj ho
          have f51 : ac.tmps.getD 51 undef = .agg (B32 (bdig a)) := hF.fact 26 _ _ rfl rfl (dep hd 26 (by kernel_rfl))
          have f53 : ac.tmps.getD 53 undef = .agg (B32 (bdig 1)) := hF.fact 28 _ _ rfl rfl (dep hd 28 (by kernel_rfl))
          have f55 : ac.tmps.getD 55 undef = .agg (B32 (bdig 0)) := hF.fact 30 _ _ rfl rfl (dep hd 30 (by kernel_rfl))
          have fg : ac.tmps.getD 50 undef = .bool true := hF.fact 25 _ _ rfl rfl (dep hd 25 (by kernel_rfl))
          refine ⟨wanted_true (g := 25) rfl rfl rfl fg, fun K hK => ?_⟩
          unfold Oper.wp
          go_simp
          refine (F.muladdA ha h1 h0 Hx1.out _ (F.keep _ _ hTq hF.cls)).mono ?_
          rintro e w' ⟨rfl, hB⟩
          exact hK _ _ hB rfl
        · obtain rfl := Option.some.inj ho
          have f8 : ac.tmps.getD 8 undef = .pointer (some ⟨bX, 0, none⟩) := slot hF 8 (by kernel_rfl)
          have fg : ac.tmps.getD 50 undef = .bool true := hF.fact 25 _ _ rfl rfl (dep hd 25 (by kernel_rfl))
          refine ⟨wanted_true (g := 25) rfl rfl rfl fg, fun K hK => ?_⟩
          exact wp_load_own 22 (.tmp 8) rfl bX f8 (B32 (bdig x)) _ 22 ((hKq.below hF.cls).at bX (B32 (bdig x)) 22 (by simp)) Tryd.underlying22 rfl (B32_info _) (hK _ _ (Below.refl _ _) rfl)
        · obtain rfl := Option.some.inj ho
          have f56 : ac.tmps.getD 56 undef = .agg (B32 (bdig x)) := hF.fact 31 _ _ rfl rfl (dep hd 31 (by kernel_rfl))
          have f57 : ac.tmps.getD 57 undef = .agg (B32 (bdig x)) := hF.fact 32 _ _ rfl rfl (dep hd 32 (by kernel_rfl))
          have fg : ac.tmps.getD 50 undef = .bool true := hF.fact 25 _ _ rfl rfl (dep hd 25 (by kernel_rfl))
          refine ⟨wanted_true (g := 25) rfl rfl rfl fg, fun K hK => ?_⟩
          unfold Oper.wp
          go_simp
          exact hK _ _ (Below.refl _ _) rfl
        · obtain rfl := Option.some.inj ho
          have f50 : ac.tmps.getD 50 undef = .bool true := hF.fact 25 _ _ rfl rfl (dep hd 25 (by kernel_rfl))
          have f58 : ac.tmps.getD 58 undef = .bool true := hF.fact 33 _ _ rfl rfl (dep hd 33 (by kernel_rfl))
          refine ⟨wanted_free rfl, fun K hK => ?_⟩
          unfold Oper.wp
          go_simp
          exact hK _ _ (Below.refl _ _) rfl
        · obtain rfl := Option.some.inj ho
          have f59 : ac.tmps.getD 59 undef = .bool true := hF.fact 34 _ _ rfl rfl (dep hd 34 (by kernel_rfl))
          refine ⟨wanted_free rfl, fun K hK => ?_⟩
          unfold Oper.wp
          go_simp
          exact hK _ _ (Below.refl _ _) rfl
        · obtain rfl := Option.some.inj ho
          have f7 : ac.tmps.getD 7 undef = .func (Fn.func 17) #[] #[] := slot hF 7 (by kernel_rfl)
          have fg : ac.tmps.getD 60 undef = .bool true := hF.fact 35 _ _ rfl rfl (dep hd 35 (by kernel_rfl))
          refine ⟨wanted_true (g := 35) rfl rfl rfl fg, fun K hK => ?_⟩
          unfold Oper.wp
          go_simp
          exact hK _ _ (Below.refl _ _) rfl
        · obtain rfl := Option.some.inj ho
          have f61 : ac.tmps.getD 61 undef = .func (Fn.func 17) #[] #[] := hF.fact 36 _ _ rfl rfl (dep hd 36 (by kernel_rfl))
          have fg : ac.tmps.getD 60 undef = .bool true := hF.fact 35 _ _ rfl rfl (dep hd 35 (by kernel_rfl))
          refine ⟨wanted_true (g := 35) rfl rfl rfl fg, fun K hK => ?_⟩
          unfold Oper.wp
          go_simp
          refine (num_any 0 (by decide) _).mono ?_
          rintro e w' ⟨rfl, hB⟩
          exact hK _ _ hB rfl
        · obtain rfl := Option.some.inj ho
          have f4 : ac.tmps.getD 4 undef = .pointer (some ⟨bB, 0, none⟩) := slot hF 4 (by kernel_rfl)
          have fg : ac.tmps.getD 60 undef = .bool true := hF.fact 35 _ _ rfl rfl (dep hd 35 (by kernel_rfl))
          refine ⟨wanted_true (g := 35) rfl rfl rfl fg, fun K hK => ?_⟩
          exact wp_load_own 22 (.tmp 4) rfl bB f4 (B32 (bdig b)) _ 22 ((hKq.below hF.cls).at bB (B32 (bdig b)) 22 (by simp)) Tryd.underlying22 rfl (B32_info _) (hK _ _ (Below.refl _ _) rfl)
        · obtain rfl := Option.some.inj ho
          have f3 : ac.tmps.getD 3 undef = .pointer (some ⟨bA, 0, none⟩) := slot hF 3 (by kernel_rfl)
          have fg : ac.tmps.getD 60 undef = .bool true := hF.fact 35 _ _ rfl rfl (dep hd 35 (by kernel_rfl))
          refine ⟨wanted_true (g := 35) rfl rfl rfl fg, fun K hK => ?_⟩
          exact wp_load_own 22 (.tmp 3) rfl bA f3 (B32 (bdig a)) _ 22 ((hKq.below hF.cls).at bA (B32 (bdig a)) 22 (by simp)) Tryd.underlying22 rfl (B32_info _) (hK _ _ (Below.refl _ _) rfl)
        · obtain rfl := Option.some.inj ho
          have f62 : ac.tmps.getD 62 undef = .agg (B32 (bdig 0)) := hF.fact 37 _ _ rfl rfl (dep hd 37 (by kernel_rfl))
          have f63 : ac.tmps.getD 63 undef = .agg (B32 (bdig b)) := hF.fact 38 _ _ rfl rfl (dep hd 38 (by kernel_rfl))
          have f64 : ac.tmps.getD 64 undef = .agg (B32 (bdig a)) := hF.fact 39 _ _ rfl rfl (dep hd 39 (by kernel_rfl))
          have fg : ac.tmps.getD 60 undef = .bool true := hF.fact 35 _ _ rfl rfl (dep hd 35 (by kernel_rfl))
          refine ⟨wanted_true (g := 35) rfl rfl rfl fg, fun K hK => ?_⟩
          unfold Oper.wp
          go_simp
          refine (F.muladdA h0 hb ha Hx2.out _ (F.keep _ _ hTq hF.cls)).mono ?_
          rintro e w' ⟨rfl, hB⟩
          exact hK _ _ hB rfl
        · obtain rfl := Option.some.inj ho
          have f8 : ac.tmps.getD 8 undef = .pointer (some ⟨bX, 0, none⟩) := slot hF 8 (by kernel_rfl)
          have fg : ac.tmps.getD 60 undef = .bool true := hF.fact 35 _ _ rfl rfl (dep hd 35 (by kernel_rfl))
          refine ⟨wanted_true (g := 35) rfl rfl rfl fg, fun K hK => ?_⟩
          exact wp_load_own 22 (.tmp 8) rfl bX f8 (B32 (bdig x)) _ 22 ((hKq.below hF.cls).at bX (B32 (bdig x)) 22 (by simp)) Tryd.underlying22 rfl (B32_info _) (hK _ _ (Below.refl _ _) rfl)
        · obtain rfl := Option.some.inj ho
          have f65 : ac.tmps.getD 65 undef = .agg (B32 (bdig x)) := hF.fact 40 _ _ rfl rfl (dep hd 40 (by kernel_rfl))
          have f66 : ac.tmps.getD 66 undef = .agg (B32 (bdig x)) := hF.fact 41 _ _ rfl rfl (dep hd 41 (by kernel_rfl))
          have fg : ac.tmps.getD 60 undef = .bool true := hF.fact 35 _ _ rfl rfl (dep hd 35 (by kernel_rfl))
          refine ⟨wanted_true (g := 35) rfl rfl rfl fg, fun K hK => ?_⟩
          unfold Oper.wp
          go_simp
          exact hK _ _ (Below.refl _ _) rfl
        · obtain rfl := Option.some.inj ho
          have f60 : ac.tmps.getD 60 undef = .bool true := hF.fact 35 _ _ rfl rfl (dep hd 35 (by kernel_rfl))
          have f67 : ac.tmps.getD 67 undef = .bool true := hF.fact 42 _ _ rfl rfl (dep hd 42 (by kernel_rfl))
          refine ⟨wanted_free rfl, fun K hK => ?_⟩
          unfold Oper.wp
          go_simp
          exact hK _ _ (Below.refl _ _) rfl
        · obtain rfl := Option.some.inj ho
          have f68 : ac.tmps.getD 68 undef = .bool true := hF.fact 43 _ _ rfl rfl (dep hd 43 (by kernel_rfl))
          refine ⟨wanted_free rfl, fun K hK => ?_⟩
          unfold Oper.wp
          go_simp
          exact hK _ _ (Below.refl _ _) rfl
        · obtain rfl := Option.some.inj ho
          have f3 : ac.tmps.getD 3 undef = .pointer (some ⟨bA, 0, none⟩) := slot hF 3 (by kernel_rfl)
          have fg : ac.tmps.getD 69 undef = .bool true := hF.fact 44 _ _ rfl rfl (dep hd 44 (by kernel_rfl))
          refine ⟨wanted_true (g := 44) rfl rfl rfl fg, fun K hK => ?_⟩
          exact wp_load_own 22 (.tmp 3) rfl bA f3 (B32 (bdig a)) _ 22 ((hKq.below hF.cls).at bA (B32 (bdig a)) 22 (by simp)) Tryd.underlying22 rfl (B32_info _) (hK _ _ (Below.refl _ _) rfl)
        · obtain rfl := Option.some.inj ho
          have f11 : ac.tmps.getD 11 undef = .pointer (some ⟨bL, 0, none⟩) := slot hF 11 (by kernel_rfl)
          have fg : ac.tmps.getD 69 undef = .bool true := hF.fact 44 _ _ rfl rfl (dep hd 44 (by kernel_rfl))
          refine ⟨wanted_true (g := 44) rfl rfl rfl fg, fun K hK => ?_⟩
          exact wp_load_own 22 (.tmp 11) rfl bL f11 (B32 (bdig l)) _ 22 ((hKq.below hF.cls).at bL (B32 (bdig l)) 22 (by simp)) Tryd.underlying22 rfl (B32_info _) (hK _ _ (Below.refl _ _) rfl)
        · obtain rfl := Option.some.inj ho
          have f5 : ac.tmps.getD 5 undef = .pointer (some ⟨bC, 0, none⟩) := slot hF 5 (by kernel_rfl)
          have fg : ac.tmps.getD 69 undef = .bool true := hF.fact 44 _ _ rfl rfl (dep hd 44 (by kernel_rfl))
          refine ⟨wanted_true (g := 44) rfl rfl rfl fg, fun K hK => ?_⟩
          exact wp_load_own 22 (.tmp 5) rfl bC f5 (B32 (bdig c)) _ 22 ((hKq.below hF.cls).at bC (B32 (bdig c)) 22 (by simp)) Tryd.underlying22 rfl (B32_info _) (hK _ _ (Below.refl _ _) rfl)
        · obtain rfl := Option.some.inj ho
          have f70 : ac.tmps.getD 70 undef = .agg (B32 (bdig a)) := hF.fact 45 _ _ rfl rfl (dep hd 45 (by kernel_rfl))
          have f71 : ac.tmps.getD 71 undef = .agg (B32 (bdig l)) := hF.fact 46 _ _ rfl rfl (dep hd 46 (by kernel_rfl))
          have f72 : ac.tmps.getD 72 undef = .agg (B32 (bdig c)) := hF.fact 47 _ _ rfl rfl (dep hd 47 (by kernel_rfl))
          have fg : ac.tmps.getD 69 undef = .bool true := hF.fact 44 _ _ rfl rfl (dep hd 44 (by kernel_rfl))
          refine ⟨wanted_true (g := 44) rfl rfl rfl fg, fun K hK => ?_⟩
          unfold Oper.wp
          go_simp
          refine (F.muladdA ha hl hc Hq2.out _ (F.keep _ _ hTq hF.cls)).mono ?_
          rintro e w' ⟨rfl, hB⟩
          exact hK _ _ hB rfl
        · obtain rfl := Option.some.inj ho
          have f5 : ac.tmps.getD 5 undef = .pointer (some ⟨bC, 0, none⟩) := slot hF 5 (by kernel_rfl)
          have fg : ac.tmps.getD 69 undef = .bool true := hF.fact 44 _ _ rfl rfl (dep hd 44 (by kernel_rfl))
          refine ⟨wanted_true (g := 44) rfl rfl rfl fg, fun K hK => ?_⟩
          exact wp_load_own 22 (.tmp 5) rfl bC f5 (B32 (bdig c)) _ 22 ((hKq.below hF.cls).at bC (B32 (bdig c)) 22 (by simp)) Tryd.underlying22 rfl (B32_info _) (hK _ _ (Below.refl _ _) rfl)
        · obtain rfl := Option.some.inj ho
          have f74 : ac.tmps.getD 74 undef = .agg (B32 (bdig c)) := hF.fact 49 _ _ rfl rfl (dep hd 49 (by kernel_rfl))
          have fg : ac.tmps.getD 69 undef = .bool true := hF.fact 44 _ _ rfl rfl (dep hd 44 (by kernel_rfl))
          refine ⟨wanted_true (g := 44) rfl rfl rfl fg, fun K hK => ?_⟩
          unfold Oper.wp
          go_simp
          refine (F.modA hc Hq.out _ (F.keep _ _ hTq hF.cls)).mono ?_
          rintro e w' ⟨rfl, hB⟩
          exact hK _ _ hB rfl
        · obtain rfl := Option.some.inj ho
          have f73 : ac.tmps.getD 73 undef = .agg (B32 (bdig q)) := hF.fact 48 _ _ rfl rfl (dep hd 48 (by kernel_rfl))
          have f75 : ac.tmps.getD 75 undef = .agg (B32 (bdig q)) := hF.fact 50 _ _ rfl rfl (dep hd 50 (by kernel_rfl))
          have fg : ac.tmps.getD 69 undef = .bool true := hF.fact 44 _ _ rfl rfl (dep hd 44 (by kernel_rfl))
          refine ⟨wanted_true (g := 44) rfl rfl rfl fg, fun K hK => ?_⟩
          unfold Oper.wp
          go_simp
          exact hK _ _ (Below.refl _ _) rfl
        · obtain rfl := Option.some.inj ho
          have f69 : ac.tmps.getD 69 undef = .bool true := hF.fact 44 _ _ rfl rfl (dep hd 44 (by kernel_rfl))
          have f76 : ac.tmps.getD 76 undef = .bool true := hF.fact 51 _ _ rfl rfl (dep hd 51 (by kernel_rfl))
          refine ⟨wanted_free rfl, fun K hK => ?_⟩
          unfold Oper.wp
          go_simp
          exact hK _ _ (Below.refl _ _) rfl
        · obtain rfl := Option.some.inj ho
          have f77 : ac.tmps.getD 77 undef = .bool true := hF.fact 52 _ _ rfl rfl (dep hd 52 (by kernel_rfl))
          refine ⟨wanted_free rfl, fun K hK => ?_⟩
          unfold Oper.wp
          go_simp
          exact hK _ _ (Below.refl _ _) rfl
        · obtain rfl := Option.some.inj ho
          have f11 : ac.tmps.getD 11 undef = .pointer (some ⟨bL, 0, none⟩) := slot hF 11 (by kernel_rfl)
          have fg : ac.tmps.getD 78 undef = .bool true := hF.fact 53 _ _ rfl rfl (dep hd 53 (by kernel_rfl))
          refine ⟨wanted_true (g := 53) rfl rfl rfl fg, fun K hK => ?_⟩
          exact wp_load_own 22 (.tmp 11) rfl bL f11 (B32 (bdig l)) _ 22 ((hKq.below hF.cls).at bL (B32 (bdig l)) 22 (by simp)) Tryd.underlying22 rfl (B32_info _) (hK _ _ (Below.refl _ _) rfl)
        · obtain rfl := Option.some.inj ho
          have f4 : ac.tmps.getD 4 undef = .pointer (some ⟨bB, 0, none⟩) := slot hF 4 (by kernel_rfl)
          have fg : ac.tmps.getD 78 undef = .bool true := hF.fact 53 _ _ rfl rfl (dep hd 53 (by kernel_rfl))
          refine ⟨wanted_true (g := 53) rfl rfl rfl fg, fun K hK => ?_⟩
          exact wp_load_own 22 (.tmp 4) rfl bB f4 (B32 (bdig b)) _ 22 ((hKq.below hF.cls).at bB (B32 (bdig b)) 22 (by simp)) Tryd.underlying22 rfl (B32_info _) (hK _ _ (Below.refl _ _) rfl)
        · obtain rfl := Option.some.inj ho
          have f11 : ac.tmps.getD 11 undef = .pointer (some ⟨bL, 0, none⟩) := slot hF 11 (by kernel_rfl)
          have fg : ac.tmps.getD 78 undef = .bool true := hF.fact 53 _ _ rfl rfl (dep hd 53 (by kernel_rfl))
          refine ⟨wanted_true (g := 53) rfl rfl rfl fg, fun K hK => ?_⟩
          exact wp_load_own 22 (.tmp 11) rfl bL f11 (B32 (bdig l)) _ 22 ((hKq.below hF.cls).at bL (B32 (bdig l)) 22 (by simp)) Tryd.underlying22 rfl (B32_info _) (hK _ _ (Below.refl _ _) rfl)
        · obtain rfl := Option.some.inj ho
          have f79 : ac.tmps.getD 79 undef = .agg (B32 (bdig l)) := hF.fact 54 _ _ rfl rfl (dep hd 54 (by kernel_rfl))
          have f80 : ac.tmps.getD 80 undef = .agg (B32 (bdig b)) := hF.fact 55 _ _ rfl rfl (dep hd 55 (by kernel_rfl))
          have f81 : ac.tmps.getD 81 undef = .agg (B32 (bdig l)) := hF.fact 56 _ _ rfl rfl (dep hd 56 (by kernel_rfl))
          have fg : ac.tmps.getD 78 undef = .bool true := hF.fact 53 _ _ rfl rfl (dep hd 53 (by kernel_rfl))
          refine ⟨wanted_true (g := 53) rfl rfl rfl fg, fun K hK => ?_⟩
          unfold Oper.wp
          go_simp
          refine (F.muladdA hl hb hl Hl0.out _ (F.keep _ _ hTq hF.cls)).mono ?_
          rintro e w' ⟨rfl, hB⟩
          exact hK _ _ hB rfl
        · obtain rfl := Option.some.inj ho
          have f7 : ac.tmps.getD 7 undef = .func (Fn.func 17) #[] #[] := slot hF 7 (by kernel_rfl)
          have fg : ac.tmps.getD 78 undef = .bool true := hF.fact 53 _ _ rfl rfl (dep hd 53 (by kernel_rfl))
          refine ⟨wanted_true (g := 53) rfl rfl rfl fg, fun K hK => ?_⟩
          unfold Oper.wp
          go_simp
          exact hK _ _ (Below.refl _ _) rfl
        · obtain rfl := Option.some.inj ho
          have f83 : ac.tmps.getD 83 undef = .func (Fn.func 17) #[] #[] := hF.fact 58 _ _ rfl rfl (dep hd 58 (by kernel_rfl))
          have fg : ac.tmps.getD 78 undef = .bool true := hF.fact 53 _ _ rfl rfl (dep hd 53 (by kernel_rfl))
          refine ⟨wanted_true (g := 53) rfl rfl rfl fg, fun K hK => ?_⟩
          unfold Oper.wp
          go_simp
          refine (num_any 0 (by decide) _).mono ?_
          rintro e w' ⟨rfl, hB⟩
          exact hK _ _ hB rfl
        · obtain rfl := Option.some.inj ho
          have f82 : ac.tmps.getD 82 undef = .agg (B32 (bdig 0)) := hF.fact 57 _ _ rfl rfl (dep hd 57 (by kernel_rfl))
          have f84 : ac.tmps.getD 84 undef = .agg (B32 (bdig 0)) := hF.fact 59 _ _ rfl rfl (dep hd 59 (by kernel_rfl))
          have fg : ac.tmps.getD 78 undef = .bool true := hF.fact 53 _ _ rfl rfl (dep hd 53 (by kernel_rfl))
          refine ⟨wanted_true (g := 53) rfl rfl rfl fg, fun K hK => ?_⟩
          unfold Oper.wp
          go_simp
          exact hK _ _ (Below.refl _ _) rfl
        · obtain rfl := Option.some.inj ho
          have f78 : ac.tmps.getD 78 undef = .bool true := hF.fact 53 _ _ rfl rfl (dep hd 53 (by kernel_rfl))
          have f85 : ac.tmps.getD 85 undef = .bool true := hF.fact 60 _ _ rfl rfl (dep hd 60 (by kernel_rfl))
          refine ⟨wanted_free rfl, fun K hK => ?_⟩
          unfold Oper.wp
          go_simp
          exact hK _ _ (Below.refl _ _) rfl
        · obtain rfl := Option.some.inj ho
          have f86 : ac.tmps.getD 86 undef = .bool true := hF.fact 61 _ _ rfl rfl (dep hd 61 (by kernel_rfl))
          refine ⟨wanted_free rfl, fun K hK => ?_⟩
          unfold Oper.wp
          go_simp
          exact hK _ _ (Below.refl _ _) rfl
        · obtain rfl := Option.some.inj ho
          have f3 : ac.tmps.getD 3 undef = .pointer (some ⟨bA, 0, none⟩) := slot hF 3 (by kernel_rfl)
          have fg : ac.tmps.getD 87 undef = .bool true := hF.fact 62 _ _ rfl rfl (dep hd 62 (by kernel_rfl))
          refine ⟨wanted_true (g := 62) rfl rfl rfl fg, fun K hK => ?_⟩
          exact wp_load_own 22 (.tmp 3) rfl bA f3 (B32 (bdig a)) _ 22 ((hKq.below hF.cls).at bA (B32 (bdig a)) 22 (by simp)) Tryd.underlying22 rfl (B32_info _) (hK _ _ (Below.refl _ _) rfl)
        · obtain rfl := Option.some.inj ho
          have f4 : ac.tmps.getD 4 undef = .pointer (some ⟨bB, 0, none⟩) := slot hF 4 (by kernel_rfl)
          have fg : ac.tmps.getD 87 undef = .bool true := hF.fact 62 _ _ rfl rfl (dep hd 62 (by kernel_rfl))
          refine ⟨wanted_true (g := 62) rfl rfl rfl fg, fun K hK => ?_⟩
          exact wp_load_own 22 (.tmp 4) rfl bB f4 (B32 (bdig b)) _ 22 ((hKq.below hF.cls).at bB (B32 (bdig b)) 22 (by simp)) Tryd.underlying22 rfl (B32_info _) (hK _ _ (Below.refl _ _) rfl)
        · obtain rfl := Option.some.inj ho
          have f5 : ac.tmps.getD 5 undef = .pointer (some ⟨bC, 0, none⟩) := slot hF 5 (by kernel_rfl)
          have fg : ac.tmps.getD 87 undef = .bool true := hF.fact 62 _ _ rfl rfl (dep hd 62 (by kernel_rfl))
          refine ⟨wanted_true (g := 62) rfl rfl rfl fg, fun K hK => ?_⟩
          exact wp_load_own 22 (.tmp 5) rfl bC f5 (B32 (bdig c)) _ 22 ((hKq.below hF.cls).at bC (B32 (bdig c)) 22 (by simp)) Tryd.underlying22 rfl (B32_info _) (hK _ _ (Below.refl _ _) rfl)
        · obtain rfl := Option.some.inj ho
          have f88 : ac.tmps.getD 88 undef = .agg (B32 (bdig a)) := hF.fact 63 _ _ rfl rfl (dep hd 63 (by kernel_rfl))
          have f89 : ac.tmps.getD 89 undef = .agg (B32 (bdig b)) := hF.fact 64 _ _ rfl rfl (dep hd 64 (by kernel_rfl))
          have f90 : ac.tmps.getD 90 undef = .agg (B32 (bdig c)) := hF.fact 65 _ _ rfl rfl (dep hd 65 (by kernel_rfl))
          have fg : ac.tmps.getD 87 undef = .bool true := hF.fact 62 _ _ rfl rfl (dep hd 62 (by kernel_rfl))
          refine ⟨wanted_true (g := 62) rfl rfl rfl fg, fun K hK => ?_⟩
          unfold Oper.wp
          go_simp
          refine (F.muladdA ha hb hc Hs.out _ (F.keep _ _ hTq hF.cls)).mono ?_
          rintro e w' ⟨rfl, hB⟩
          exact hK _ _ hB rfl
        · obtain rfl := Option.some.inj ho
          have f8 : ac.tmps.getD 8 undef = .pointer (some ⟨bX, 0, none⟩) := slot hF 8 (by kernel_rfl)
          have fg : ac.tmps.getD 87 undef = .bool true := hF.fact 62 _ _ rfl rfl (dep hd 62 (by kernel_rfl))
          refine ⟨wanted_true (g := 62) rfl rfl rfl fg, fun K hK => ?_⟩
          exact wp_load_own 22 (.tmp 8) rfl bX f8 (B32 (bdig x)) _ 22 ((hKq.below hF.cls).at bX (B32 (bdig x)) 22 (by simp)) Tryd.underlying22 rfl (B32_info _) (hK _ _ (Below.refl _ _) rfl)
        · obtain rfl := Option.some.inj ho
          have f4 : ac.tmps.getD 4 undef = .pointer (some ⟨bB, 0, none⟩) := slot hF 4 (by kernel_rfl)
          have fg : ac.tmps.getD 87 undef = .bool true := hF.fact 62 _ _ rfl rfl (dep hd 62 (by kernel_rfl))
          refine ⟨wanted_true (g := 62) rfl rfl rfl fg, fun K hK => ?_⟩
          exact wp_load_own 22 (.tmp 4) rfl bB f4 (B32 (bdig b)) _ 22 ((hKq.below hF.cls).at bB (B32 (bdig b)) 22 (by simp)) Tryd.underlying22 rfl (B32_info _) (hK _ _ (Below.refl _ _) rfl)
        · obtain rfl := Option.some.inj ho
          have f93 : ac.tmps.getD 93 undef = .agg (B32 (bdig b)) := hF.fact 68 _ _ rfl rfl (dep hd 68 (by kernel_rfl))
          have fg : ac.tmps.getD 87 undef = .bool true := hF.fact 62 _ _ rfl rfl (dep hd 62 (by kernel_rfl))
          refine ⟨wanted_true (g := 62) rfl rfl rfl fg, fun K hK => ?_⟩
          unfold Oper.wp
          go_simp
          refine (F.modA hb Hp.out _ (F.keep _ _ hTq hF.cls)).mono ?_
          rintro e w' ⟨rfl, hB⟩
          exact hK _ _ hB rfl
        · obtain rfl := Option.some.inj ho
          have f5 : ac.tmps.getD 5 undef = .pointer (some ⟨bC, 0, none⟩) := slot hF 5 (by kernel_rfl)
          have fg : ac.tmps.getD 87 undef = .bool true := hF.fact 62 _ _ rfl rfl (dep hd 62 (by kernel_rfl))
          refine ⟨wanted_true (g := 62) rfl rfl rfl fg, fun K hK => ?_⟩
          exact wp_load_own 22 (.tmp 5) rfl bC f5 (B32 (bdig c)) _ 22 ((hKq.below hF.cls).at bC (B32 (bdig c)) 22 (by simp)) Tryd.underlying22 rfl (B32_info _) (hK _ _ (Below.refl _ _) rfl)
        · obtain rfl := Option.some.inj ho
          have f95 : ac.tmps.getD 95 undef = .agg (B32 (bdig c)) := hF.fact 70 _ _ rfl rfl (dep hd 70 (by kernel_rfl))
          have fg : ac.tmps.getD 87 undef = .bool true := hF.fact 62 _ _ rfl rfl (dep hd 62 (by kernel_rfl))
          refine ⟨wanted_true (g := 62) rfl rfl rfl fg, fun K hK => ?_⟩
          unfold Oper.wp
          go_simp
          refine (F.modA hc Hq.out _ (F.keep _ _ hTq hF.cls)).mono ?_
          rintro e w' ⟨rfl, hB⟩
          exact hK _ _ hB rfl
        · obtain rfl := Option.some.inj ho
          have f92 : ac.tmps.getD 92 undef = .agg (B32 (bdig x)) := hF.fact 67 _ _ rfl rfl (dep hd 67 (by kernel_rfl))
          have f94 : ac.tmps.getD 94 undef = .agg (B32 (bdig p)) := hF.fact 69 _ _ rfl rfl (dep hd 69 (by kernel_rfl))
          have f96 : ac.tmps.getD 96 undef = .agg (B32 (bdig q)) := hF.fact 71 _ _ rfl rfl (dep hd 71 (by kernel_rfl))
          have fg : ac.tmps.getD 87 undef = .bool true := hF.fact 62 _ _ rfl rfl (dep hd 62 (by kernel_rfl))
          refine ⟨wanted_true (g := 62) rfl rfl rfl fg, fun K hK => ?_⟩
          unfold Oper.wp
          go_simp
          refine (F.muladdA hx hp hq Hs2.out _ (F.keep _ _ hTq hF.cls)).mono ?_
          rintro e w' ⟨rfl, hB⟩
          exact hK _ _ hB rfl
        · obtain rfl := Option.some.inj ho
          have f91 : ac.tmps.getD 91 undef = .agg (B32 (bdig s)) := hF.fact 66 _ _ rfl rfl (dep hd 66 (by kernel_rfl))
          have f97 : ac.tmps.getD 97 undef = .agg (B32 (bdig s)) := hF.fact 72 _ _ rfl rfl (dep hd 72 (by kernel_rfl))
          have fg : ac.tmps.getD 87 undef = .bool true := hF.fact 62 _ _ rfl rfl (dep hd 62 (by kernel_rfl))
          refine ⟨wanted_true (g := 62) rfl rfl rfl fg, fun K hK => ?_⟩
          unfold Oper.wp
          go_simp
          exact hK _ _ (Below.refl _ _) rfl
        · obtain rfl := Option.some.inj ho
          have f87 : ac.tmps.getD 87 undef = .bool true := hF.fact 62 _ _ rfl rfl (dep hd 62 (by kernel_rfl))
          have f98 : ac.tmps.getD 98 undef = .bool true := hF.fact 73 _ _ rfl rfl (dep hd 73 (by kernel_rfl))
          refine ⟨wanted_free rfl, fun K hK => ?_⟩
          unfold Oper.wp
          go_simp
          exact hK _ _ (Below.refl _ _) rfl
        · obtain rfl := Option.some.inj ho
          have f99 : ac.tmps.getD 99 undef = .bool true := hF.fact 74 _ _ rfl rfl (dep hd 74 (by kernel_rfl))
          refine ⟨wanted_free rfl, fun K hK => ?_⟩
          unfold Oper.wp
          go_simp
          exact hK _ _ (Below.refl _ _) rfl
        · obtain rfl := Option.some.inj ho
          have f3 : ac.tmps.getD 3 undef = .pointer (some ⟨bA, 0, none⟩) := slot hF 3 (by kernel_rfl)
          have fg : ac.tmps.getD 100 undef = .bool true := hF.fact 75 _ _ rfl rfl (dep hd 75 (by kernel_rfl))
          refine ⟨wanted_true (g := 75) rfl rfl rfl fg, fun K hK => ?_⟩
          exact wp_load_own 22 (.tmp 3) rfl bA f3 (B32 (bdig a)) _ 22 ((hKq.below hF.cls).at bA (B32 (bdig a)) 22 (by simp)) Tryd.underlying22 rfl (B32_info _) (hK _ _ (Below.refl _ _) rfl)
        · obtain rfl := Option.some.inj ho
          have f4 : ac.tmps.getD 4 undef = .pointer (some ⟨bB, 0, none⟩) := slot hF 4 (by kernel_rfl)
          have fg : ac.tmps.getD 100 undef = .bool true := hF.fact 75 _ _ rfl rfl (dep hd 75 (by kernel_rfl))
          refine ⟨wanted_true (g := 75) rfl rfl rfl fg, fun K hK => ?_⟩
          exact wp_load_own 22 (.tmp 4) rfl bB f4 (B32 (bdig b)) _ 22 ((hKq.below hF.cls).at bB (B32 (bdig b)) 22 (by simp)) Tryd.underlying22 rfl (B32_info _) (hK _ _ (Below.refl _ _) rfl)
        · obtain rfl := Option.some.inj ho
          have f5 : ac.tmps.getD 5 undef = .pointer (some ⟨bC, 0, none⟩) := slot hF 5 (by kernel_rfl)
          have fg : ac.tmps.getD 100 undef = .bool true := hF.fact 75 _ _ rfl rfl (dep hd 75 (by kernel_rfl))
          refine ⟨wanted_true (g := 75) rfl rfl rfl fg, fun K hK => ?_⟩
          exact wp_load_own 22 (.tmp 5) rfl bC f5 (B32 (bdig c)) _ 22 ((hKq.below hF.cls).at bC (B32 (bdig c)) 22 (by simp)) Tryd.underlying22 rfl (B32_info _) (hK _ _ (Below.refl _ _) rfl)
        · obtain rfl := Option.some.inj ho
          have f101 : ac.tmps.getD 101 undef = .agg (B32 (bdig a)) := hF.fact 76 _ _ rfl rfl (dep hd 76 (by kernel_rfl))
          have f102 : ac.tmps.getD 102 undef = .agg (B32 (bdig b)) := hF.fact 77 _ _ rfl rfl (dep hd 77 (by kernel_rfl))
          have f103 : ac.tmps.getD 103 undef = .agg (B32 (bdig c)) := hF.fact 78 _ _ rfl rfl (dep hd 78 (by kernel_rfl))
          have fg : ac.tmps.getD 100 undef = .bool true := hF.fact 75 _ _ rfl rfl (dep hd 75 (by kernel_rfl))
          refine ⟨wanted_true (g := 75) rfl rfl rfl fg, fun K hK => ?_⟩
          unfold Oper.wp
          go_simp
          refine (F.muladdA ha hb hc Hs.out _ (F.keep _ _ hTq hF.cls)).mono ?_
          rintro e w' ⟨rfl, hB⟩
          exact hK _ _ hB rfl
        · obtain rfl := Option.some.inj ho
          have f104 : ac.tmps.getD 104 undef = .agg (B32 (bdig s)) := hF.fact 79 _ _ rfl rfl (dep hd 79 (by kernel_rfl))
          have fg : ac.tmps.getD 100 undef = .bool true := hF.fact 75 _ _ rfl rfl (dep hd 75 (by kernel_rfl))
          refine ⟨wanted_true (g := 75) rfl rfl rfl fg, fun K hK => ?_⟩
          unfold Oper.wp
          go_simp
          refine (F.check s hs _ (F.keep _ _ hTq hF.cls)).mono ?_
          rintro e w' ⟨rfl, hB⟩
          rw [decide_eq_true hsL.out]
          exact hK _ _ hB rfl
        · obtain rfl := Option.some.inj ho
          have f100 : ac.tmps.getD 100 undef = .bool true := hF.fact 75 _ _ rfl rfl (dep hd 75 (by kernel_rfl))
          have f105 : ac.tmps.getD 105 undef = .bool true := hF.fact 80 _ _ rfl rfl (dep hd 80 (by kernel_rfl))
          refine ⟨wanted_free rfl, fun K hK => ?_⟩
          unfold Oper.wp
          go_simp
          exact hK _ _ (Below.refl _ _) rfl
        · obtain rfl := Option.some.inj ho
          have f106 : ac.tmps.getD 106 undef = .bool true := hF.fact 81 _ _ rfl rfl (dep hd 81 (by kernel_rfl))
          refine ⟨wanted_free rfl, fun K hK => ?_⟩
          unfold Oper.wp
          go_simp
          exact hK _ _ (Below.refl _ _) rfl
        · obtain rfl := Option.some.inj ho
          have fg : ac.tmps.getD 107 undef = .bool true := hF.fact 82 _ _ rfl rfl (dep hd 82 (by kernel_rfl))
          refine ⟨wanted_true (g := 82) rfl rfl rfl fg, fun K hK => ?_⟩
          unfold Oper.wp
          go_simp
          refine (swakes_any F.toSclT _ (F.keep _ _ hTq hF.cls)).mono ?_
          rintro e w' ⟨rfl, hB⟩
          exact hK _ _ hB rfl
        · obtain rfl := Option.some.inj ho
          have f107 : ac.tmps.getD 107 undef = .bool true := hF.fact 82 _ _ rfl rfl (dep hd 82 (by kernel_rfl))
          have f108 : ac.tmps.getD 108 undef = .bool true := hF.fact 83 _ _ rfl rfl (dep hd 83 (by kernel_rfl))
          refine ⟨wanted_free rfl, fun K hK => ?_⟩
          unfold Oper.wp
          go_simp
          exact hK _ _ (Below.refl _ _) rfl
        · obtain rfl := Option.some.inj ho
          have f109 : ac.tmps.getD 109 undef = .bool true := hF.fact 84 _ _ rfl rfl (dep hd 84 (by kernel_rfl))
          refine ⟨wanted_free rfl, fun K hK => ?_⟩
          unfold Oper.wp
          go_simp
          exact hK _ _ (Below.refl _ _) rfl
        · cases ho
      · intro L ac wc hL hF
        have fe : ac.tmps.getD 6 undef = .bool true := hF.fact 85 _ 6 rfl rfl (hL 85 (by decide))
        have hb' := (hKq.below hF.cls).2
        go_wp2
        exact bodyPost_ret (results_tmp rfl _ _ _) hF.defers ⟨by rw [fe], hb'⟩
end Go.Proofs.YtofoihebhdpjlaaDoor
