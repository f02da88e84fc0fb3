/- Of the texts E13, SA: what the card of this claim reaches. -/
import Derived.Test.YtfkcphbbabaefaaGreatDoorXD3
import Derived.Test.YtfkcphbbabaefaaGreatDoorXD11
namespace Go.Proofs.YtfkcphbbabaefaaGreatDoor
open Go.RowKit
set_option maxRecDepth 100000 in
set_option maxHeartbeats 8000000 in
theorem of_any (a : Nat) (ha : a < R256) (w : World) : Calls Tryz.prog 51 #[.agg (B32 (bdig a))] w fun x w' => x = .returned (.agg (numA a)) ∧ Below w.heap.size w w' := by
  have hz := (zero_of_info zeroNum).1
  go_enter Tryz.func51, Tryz.ntmps51
  go_wp2_with fail
  have hK0 := (((Kp.nil w).alloc (B32 (bdig a)) 22).alloc (numA 0) 50).alloc (numA 0) 50
  rw [World.size_alloc, World.size_alloc] at hK0
  rw [← zero_num]
  generalize ((w.alloc (.cells (B32 (bdig a)) 22)).alloc (.cells (numA 0) 50)).alloc (.cells (numA 0) 50) = W at *
  obtain ⟨bA, HA⟩ : ∃ bA, Hid (w.heap.size = bA) := ⟨_, rfl⟩
  obtain ⟨bR, HR⟩ : ∃ bR, Hid (bA + 1 = bR) := ⟨_, rfl⟩
  obtain ⟨bO, HO⟩ : ∃ bO, Hid (bR + 1 = bO) := ⟨_, rfl⟩
  have hle : w.heap.size ≤ bR := by have := HA.out; have := HR.out; omega
  have hleO : w.heap.size ≤ bO := by have := HO.out; omega
  have n1 : bA ≠ bO := by have := HR.out; have := HO.out; omega
  have n2 : bR ≠ bO := by have := HO.out; omega
  rw [HA.out, HR.out, HO.out] at hK0 ⊢
  go_loopw [4] (fun ii wr => ∃ (k x : Nat), k ≤ 32 ∧ ii = .int .i64 (k : Int) ∧ x < 256 ^ k ∧ Hid (x = a % 256 ^ k) ∧ Kp [(bO, numA x, 50), (bR, numA 0, 50), (bA, B32 (bdig a), 22)] w wr) (fun ii _ => 32 - (intOf ii).toNat)
  case atStart => exact ⟨0, 0, by omega, rfl, by decide, by show _ = _; rw [Nat.pow_zero, Nat.mod_one], hK0⟩
  case round =>
    obtain ⟨k, x, hk, rfl, hx, Hx, hKr⟩ := hrel
    have hk0 : (0 : Int) ≤ (k : Int) := by omega
    by_cases hlt : k < 32
    · have hki : (k : Int) < 32 := by omega
      have hd4 : k / 8 < 4 := by omega
      have cA := (hKr.at bA (B32 (bdig a)) 22 (by simp)).cell (B32_at (bdig a) k hlt)
      have cO := (hKr.at bO (numA x) 50 (by simp)).cell (numA_at x (k / 8) hd4)
      have fO := (hKr.at bO (numA x) 50 (by simp)).frozen (k / 8)
      have hc := bdig_lt a k
      have hdv : (k : Int).tdiv 8 = ((k / 8 : Nat) : Int) := by rw [Int.tdiv_eq_ediv_of_nonneg (by omega)]; omega
      have hmd : (k : Int).tmod 8 = ((k % 8 : Nat) : Int) := by rw [Int.tmod_eq_emod_of_nonneg (by omega)]; omega
      have hd40 : (0 : Int) ≤ ((k / 8 : Nat) : Int) := by omega
      have hd41 : ((k / 8 : Nat) : Int) < 4 := by omega
      have hm0 : (0 : Int) ≤ 8 * ((k % 8 : Nat) : Int) := by omega
      have hm1 : 8 * ((k % 8 : Nat) : Int) < 64 := by omega
      have hm2 : ((k % 8 : Nat) : Int) < 8 := by omega
      have hm3 : (0 : Int) ≤ ((k % 8 : Nat) : Int) := by omega
      have hs := shl_byte (k := k) hc
      have hor := or_byte hx hc
      have hK1 := Kp.setCell (i := k / 8) (v := .int .u64 ((dig x (k / 8) + bdig a k * 256 ^ (k % 8) : Nat) : Int)) hKr (by simp; omega) hleO
      have hK2 : Kp [(bO, numA (a % 256 ^ (k + 1)), 50), (bR, numA 0, 50), (bA, B32 (bdig a), 22)] w (wr.setCell ⟨bO, k / 8, none⟩ (.int .u64 ((dig x (k / 8) + bdig a k * 256 ^ (k % 8) : Nat) : Int))) := by
        have e : (numA x).setIfInBounds (k / 8) (.int .u64 ((dig x (k / 8) + bdig a k * 256 ^ (k % 8) : Nat) : Int)) = numA (a % 256 ^ (k + 1)) := by
          unfold numA
          rw [A4_set _ _ _ hd4, mod_more, ← Hx.out]
          exact A4_congr fun j _ => (dig_more hx hc j).symm
        rw [e] at hK1
        exact hK1
      have HK2 := show Hid _ from hK2
      clear hK1 hK2
      have hc0 : (0 : Int) ≤ ((bdig a k : Nat) : Int) := by omega
      have hc1 : ((bdig a k : Nat) : Int) < 256 := by omega
      generalize dig x (k / 8) + bdig a k * 256 ^ (k % 8) = v at *
      generalize bdig a k * 256 ^ (k % 8) = u at *
      generalize hCC : bdig a k = c at cA hs hc0 hc1
      clear hCC
      generalize dig x (k / 8) = d at *
      generalize k / 8 = D at *
      generalize k % 8 = M at *
      go_wp2_with fail
      go_region
      go_wp2_with fail
      refine ⟨⟨k + 1, a % 256 ^ (k + 1), by omega, by go_num, Nat.mod_lt _ (Nat.pow_pos (by decide)), rfl, Kp.below HK2.out ((Below.refl _ _).drew)⟩, by simp [intOf]; omega⟩
    · have hki : ¬ (k : Int) < 32 := by omega
      have He : Hid (x = a) := by
        show _ = _
        have hk32 : k = 32 := by omega
        rw [Hx.out, hk32]
        exact Nat.mod_eq_of_lt ha
      go_upto_region 6 with fail
      go_wp2_with (first
        | refine wpList_load_own (by rfl) 50 (.tmp 3) (by rfl) bO (by rfl) (numA x) _ (hKr.at bO (numA x) 50 (by simp)) Tryz.underlying50 (by rfl) (numA_info x) ?_
        | refine wpList_store_own (by rfl) 50 (.tmp 2) (.tmp 24) (by rfl) bR 0 (numA x) (by rfl) (by rfl) (hKr.at bR (numA 0) 50 (by simp)) (Nat.le_refl _) (numA_info x) (numA_one x) (by rfl) ?_)
      refine bodyPost_ret (results_own Tryz.results51 _ _ bR (numA x) _ (by rfl) (own_setCells (hKr.at bR (numA 0) 50 (by simp)) (numA_sizes x 0)) Tryz.underlying50 rfl (numA_info x)) rfl ⟨by rw [He.out], ?_⟩
      exact Below.setCells _ _ _ _ hle hKr.2
end Go.Proofs.YtfkcphbbabaefaaGreatDoor
namespace Go.Proofs.YtfkcphbbabaefaaGreatDoor
open Go.RowKit
theorem modL_half {t i n b : Nat} (hn : n = t / 2 ^ (i + 1) % LL) (hb : t / 2 ^ i % 2 = b) : t / 2 ^ i % LL = (n + n + b) % LL := by
  have h : t / 2 ^ i = t / 2 ^ (i + 1) * 2 + b := by
    have : t / 2 ^ (i + 1) = t / 2 ^ i / 2 := by rw [Nat.pow_succ, Nat.div_div_eq_div_mul]
    omega
  rw [h, hn]
  generalize t / 2 ^ (i + 1) = x
  rw [Nat.add_mod (x % LL + x % LL), ← Nat.add_mod x x, ← Nat.add_mod, Nat.mul_two]
theorem modL_low {t i n b s : Nat} (hn : n = t / 2 ^ (i + 1) % LL) (hb : t / 2 ^ i % 2 = b) (hs : n + n + b = s) (hl : s < LL) : s = t / 2 ^ i % LL := by
  rw [modL_half hn hb, hs, Nat.mod_eq_of_lt hl]
theorem modL_high {t i n b s y : Nat} (hn : n = t / 2 ^ (i + 1) % LL) (hb : t / 2 ^ i % 2 = b) (hs : n + n + b = s) (hy : s = y + LL) (hl : y < LL) : y = t / 2 ^ i % LL := by
  rw [modL_half hn hb, hs, hy, Nat.add_mod_right, Nat.mod_eq_of_lt hl]
theorem pow_two_add {a b n A B : Nat} (ha : 2 ^ a = A) (hb : 2 ^ b = B) (e : n = a + b) : 2 ^ n = A * B := by rw [e, Nat.pow_add, ha, hb]
theorem two512 {n : Nat} (e : n = 256 + 256) : 2 ^ n = R512 := (pow_two_add (show 2 ^ 256 = R256 by decide) (show 2 ^ 256 = R256 by decide) e).trans R512_eq.symm
theorem modL_from (t n : Nat) (e : n = 256 + 256) (ht : t < R512) : 0 = t / 2 ^ n % LL := by
  rw [two512 e, Nat.div_eq_of_lt ht, Nat.zero_mod]
theorem A4_upd {f : Nat → Nat} {k v n : Nat} (hk : k < 4) (hf : ∀ i, i < 4 → f i < 18446744073709551616) (hv : v < 18446744073709551616) (e : vl (upd f k v) 4 = n) : (A4 f).setIfInBounds k (.int .u64 (v : Int)) = numA n := by
  rw [A4_set f k v hk, ← e]
  exact A4_num _ fun i hi => by
    by_cases h : i = k
    · rw [h, upd_same]; exact hv
    · rw [upd_other _ _ _ _ h]; exact hf i hi
theorem or_end (s b : Nat) (hb : b < 2) (hs : s % 2 = 0) : bits .or .u64 (dig s 0 : Int) (b : Int) = ((dig s 0 + b : Nat) : Int) := by
  have h0 : dig s 0 % 2 = 0 := by
    unfold dig
    rw [Nat.pow_zero, Nat.div_one]; omega
  rw [u64_or_nat (dig s 0) b (dig_lt s 0) (by omega), Nat.or_comm, nat_join1' (dig s 0) b h0 hb]
theorem num_end {s b n : Nat} (hs : s < R256) (h2 : s % 2 = 0) (hb : b < 2) (hn : s + b = n) : (numA s).setIfInBounds 0 (.int .u64 ((dig s 0 + b : Nat) : Int)) = numA n := by
  have h0 : dig s 0 % 2 = 0 := by
    unfold dig
    rw [Nat.pow_zero, Nat.div_one]; omega
  have hd := dig_lt s 0
  refine A4_upd (by decide) (fun i _ => dig_lt s i) (by omega) ?_
  have h := vl_upd_eq (dig s) 0 (dig s 0 + b) 4 (by decide)
  rw [vl_num s hs, Nat.pow_zero] at h
  omega
theorem even_sum {n s : Nat} (h : n + n = s) : s % 2 = 0 := by omega
end Go.Proofs.YtfkcphbbabaefaaGreatDoor
namespace Go.Proofs.YtfkcphbbabaefaaGreatDoor
open Go.RowKit
theorem add_fitL {a b s : Nat} (ha : a < R256) (hb : b < R256) (hs : a + b = s) (h : s < R256) (w : World) :
    Calls Tryz.prog 82 #[.agg (numA a), .agg (numA b)] w fun e w' => e = .returned (.tuple #[.agg (numA s), .int .u64 0]) ∧ Below w.heap.size w w' := by
  refine (add_any a b ha hb w).mono ?_
  rintro e w' ⟨⟨d, c, rfl, hd, hc, he⟩, hB⟩
  have : c = 0 ∨ c = 1 := by omega
  rcases this with rfl | rfl
  · obtain rfl : d = s := by omega
    exact ⟨rfl, hB⟩
  · omega
def valML (u : Nat) (d : Bool) : Nat → Value
  | 0 => .agg (numA u)
  | 1 => .agg (numA LL)
  | 2 => .bool d
  | 3 => .bool (!d)
  | _ => undef
def valMS (u y : Nat) : Nat → Value
  | 0 => .agg (numA u)
  | 1 => .agg (numA LL)
  | 2 => .tuple #[.agg (numA y), .int .u64 0]
  | 3 => .tuple #[.agg (numA y), .int .u64 0]
  | 4 => .agg (numA y)
  | 5 => .int .u64 0
  | _ => undef
set_option maxRecDepth 100000 in
set_option maxHeartbeats 8000000 in
theorem modL_any (t : Nat) (ht : t < R512) (w : World) : Calls Tryz.prog 56 #[.agg (A8 (dig t))] w fun x w' => x = .returned (.agg (numA (t % LL))) ∧ Below w.heap.size w w' := by
  obtain ⟨r, Hr⟩ : ∃ r, Hid (t % LL = r) := ⟨_, rfl⟩
  rw [Hr.out]
  have hz := (zero_of_info zeroNum).1
  go_enter Tryz.func56, Tryz.ntmps56
  go_wp2_with fail
  have hK0 := (((Kp.nil w).alloc (A8 (dig t)) 63).alloc (numA 0) 50).alloc (numA 0) 50
  rw [World.size_alloc, World.size_alloc] at hK0
  rw [← zero_num]
  generalize ((w.alloc (.cells (A8 (dig t)) 63)).alloc (.cells (numA 0) 50)).alloc (.cells (numA 0) 50) = W at *
  obtain ⟨bT, HT⟩ : ∃ bT, Hid (w.heap.size = bT) := ⟨_, rfl⟩
  obtain ⟨bR, HR⟩ : ∃ bR, Hid (bT + 1 = bR) := ⟨_, rfl⟩
  obtain ⟨bO, HO⟩ : ∃ bO, Hid (bR + 1 = bO) := ⟨_, rfl⟩
  have hle : w.heap.size ≤ bR := by have := HT.out; have := HR.out; omega
  have hleO : w.heap.size ≤ bO := by have := HO.out; omega
  have n1 : bT ≠ bO := by have := HR.out; have := HO.out; omega
  have n2 : bR ≠ bO := by have := HO.out; omega
  rw [HT.out, HR.out, HO.out] at hK0 ⊢
  have hnot : ∀ p ∈ [(bR, numA 0, 50), (bT, A8 (dig t), 63)], p.1 ≠ bO := by simp; omega
  go_loopw [4] (fun ii wr => ∃ (j n : Nat), j ≤ 512 ∧ ii = .int .i64 ((j : Int) - 1) ∧ n < LL ∧ Hid (n = t / 2 ^ j % LL) ∧ Kp [(bO, numA n, 50), (bR, numA 0, 50), (bT, A8 (dig t), 63)] w wr) (fun ii _ => (intOf ii + 1).toNat)
  case atStart => exact ⟨512, 0, by omega, rfl, LL_pos, modL_from t 512 rfl ht, hK0⟩
  case round =>
    obtain ⟨j, n, hj, rfl, hnL, Hn, hKr⟩ := hrel
    have hn : n < R256 := Nat.lt_trans hnL LL_lt
    cases j with
    | zero =>
      rw [show (((0 : Nat) : Int) - 1) = -1 from rfl]
      have Hend : Hid (n = r) := by
        show _ = _
        rw [Hn.out, Nat.pow_zero, Nat.div_one, Hr.out]
      go_upto_region 9 with fail
      go_wp2_with (first
        | refine wpList_load_own (by rfl) 50 (.tmp 3) (by rfl) bO (by rfl) (numA n) _ hKr.h1 Tryz.underlying50 (by rfl) (numA_info n) ?_
        | refine wpList_store_own (by rfl) 50 (.tmp 2) (.tmp 38) (by rfl) bR 0 (numA n) (by rfl) (by rfl) hKr.h2 (Nat.le_refl _) (numA_info n) (numA_one n) (by rfl) ?_)
      refine bodyPost_ret (results_own Tryz.results56 _ _ bR (numA n) _ (by rfl) (own_setCells hKr.h2 (numA_sizes n 0)) Tryz.underlying50 rfl (numA_info n)) rfl ⟨by rw [Hend.out], ?_⟩
      exact Below.setCells _ _ _ _ hle hKr.2
    | succ i =>
      rw [show (((i + 1 : Nat) : Int) - 1) = (i : Int) by omega]
      have hi0 : (0 : Int) ≤ (i : Int) := by omega
      have hi1 : (i : Int) < 512 := by omega
      obtain ⟨s, Hs⟩ : ∃ s, Hid (n + n = s) := ⟨_, rfl⟩
      have h2L := twoL
      have hs : s < R256 := by have := Hs.out; omega
      have hs2 : s % 2 = 0 := even_sum Hs.out
      obtain ⟨b, Hb⟩ : ∃ b, Hid (t / 2 ^ i % 2 = b) := ⟨_, rfl⟩
      have hb : b < 2 := by rw [← Hb.out]; exact Nat.mod_lt _ (by decide)
      obtain ⟨u, Hu⟩ : ∃ u, Hid (s + b = u) := ⟨_, rfl⟩
      have hu : u < R256 := by have := Hu.out; have := Hs.out; omega
      have hu2 : Hid (u < 2 * LL) := by show _ < _; have := Hu.out; have := Hs.out; omega
      have Hnb : Hid (n + n + b = u) := by show _ = _; rw [Hs.out]; exact Hu.out
      clear h2L
      go_upto_region 5 with fail
      go_wp2_with (refine wpList_load_own (by rfl) 50 (.tmp 3) (by rfl) bO (by rfl) (numA n) _ hKr.h1 Tryz.underlying50 (by rfl) (numA_info n) ?_)
      refine (add_fitL hn hn Hs.out hs wr).mono ?_
      rintro x w1 ⟨rfl, hB1⟩
      have hK2 := hKr.below hB1
      have hK3 := hK2.set (A' := numA s) hnot hleO (numA_sizes s n)
      go_upto_region 6 with (refine wpList_store_own (by rfl) 50 (.tmp 3) (.tmp 13) (by rfl) bO 0 (numA s) (by rfl) (by rfl) hK2.h1 (Nat.le_refl _) (numA_info s) (numA_one s) (by rfl) ?_)
      generalize w1.setCells bO 0 (numA s).toList = W2 at *
      clear hK2 hB1
      have hdv : (i : Int).tdiv 64 = ((i / 64 : Nat) : Int) := by rw [Int.tdiv_eq_ediv_of_nonneg (by omega)]; omega
      have hmd : (i : Int).tmod 64 = ((i % 64 : Nat) : Int) := by rw [Int.tmod_eq_emod_of_nonneg (by omega)]; omega
      have hd8 : i / 64 < 8 := by omega
      have cO := hK3.h1.cell (numA_at s 0 (by decide))
      have fO := hK3.h1.frozen 0
      have cT := hK3.h3.cell (A8_at (dig t) (i / 64) hd8)
      have hbit := bit_u64 t i
      rw [Hb.out] at hbit
      have hor := or_end s b hb hs2
      have hd40 : (0 : Int) ≤ ((i / 64 : Nat) : Int) := by omega
      have hd41 : ((i / 64 : Nat) : Int) < 8 := by omega
      have hm0 : (0 : Int) ≤ ((i % 64 : Nat) : Int) := by omega
      have hm1 : ((i % 64 : Nat) : Int) < 64 := by omega
      have hK4 := Kp.setCell (i := 0) (v := .int .u64 ((dig s 0 + b : Nat) : Int)) hK3 hnot hleO
      rw [num_end hs hs2 hb Hu.out] at hK4
      have HK4 := show Hid _ from hK4
      clear hK4 hs2
      generalize dig s 0 + b = v at *
      generalize dig s 0 = e0 at *
      generalize dig t (i / 64) = e at *
      generalize i / 64 = D at *
      generalize i % 64 = M at *
      go_region
      have hK5 := Kp.below HK4.out ((Below.refl _ _).drew)
      clear hK3 HK4 cO fO cT hbit hor hdv hmd
      obtain ⟨d, Hd⟩ : ∃ d, Hid (decide (u < LL) = d) := ⟨_, rfl⟩
      go_upto_region 7 with fail
      refine wp_region_vals 39 (by kernel_rfl) (by kernel_rfl) (by rfl) (valML u d) (fun _ => Kp [(bO, numA u, 50), (bR, numA 0, 50), (bT, A8 (dig t), 63)] w) (Kp.drew hK5) ?_ ?_
      · intro L ac wc i o hF hLi ho hd K hK
        rcases i with _ | _ | _ | _ | i
        · have ho' := ho
          obtain rfl := Option.some.inj ho
          have f3 : ac.tmps.getD 3 undef = .pointer (some ⟨bO, 0, none⟩) := slotv hF 0 hLi 3 (by kernel_rfl)
          refine step_do ho' (wanted_free rfl) ?_
          exact wp_load_own 50 (.tmp 3) rfl bO f3 (numA u) _ 50 hF.j.h1 Tryz.underlying50 rfl (numA_info _) (hK _ _ (.inr rfl) hF.j)
        · have ho' := ho
          obtain rfl := Option.some.inj ho
          refine step_do ho' (wanted_free rfl) ?_
          unfold Oper.wp
          go_simp
          refine (L_any _).mono ?_
          rintro e w' ⟨rfl, hB⟩
          exact hK _ _ (.inr rfl) (hF.j.below hB)
        · have ho' := ho
          obtain rfl := Option.some.inj ho
          have f28 : ac.tmps.getD 28 undef = .agg (numA u) := valv hF hd 0 rfl rfl (by kernel_rfl)
          have f29 : ac.tmps.getD 29 undef = .agg (numA LL) := valv hF hd 1 rfl rfl (by kernel_rfl)
          refine step_do ho' (wanted_free rfl) ?_
          unfold Oper.wp
          go_simp
          refine (less_any u LL hu LL_lt _).mono ?_
          rintro e w' ⟨rfl, hB⟩
          rw [Hd.out]
          exact hK _ _ (.inr rfl) (hF.j.below hB)
        · have ho' := ho
          obtain rfl := Option.some.inj ho
          have f30 : ac.tmps.getD 30 undef = .bool d := valv hF hd 2 rfl rfl (by kernel_rfl)
          refine step_do ho' (wanted_free rfl) ?_
          unfold Oper.wp
          go_simp
          exact hK _ _ (.inr rfl) hF.j
        · cases ho
      · intro L wq hL hK6
        simp only [putAll, valML, Act.put, List.setIfInBounds_toArray, List.set_cons_succ, List.set_cons_zero]
        clear hL hK5
        cases d with
        | true =>
          have hlt := of_decide_eq_true Hd.out
          have Hst := show Hid _ from modL_low Hn.out Hb.out Hnb.out hlt
          have HL := show Hid _ from hlt
          clear hlt
          go_wp2_with fail
          exact ⟨⟨i, u, by omega, rfl, HL.out, Hst.out, hK6⟩, by simp [intOf]⟩
        | false =>
          have hge := of_decide_eq_false Hd.out
          obtain ⟨y, Hy⟩ : ∃ y, Hid (u = y + LL) := ⟨u - LL, by show _ = _; omega⟩
          have HL : Hid (y < LL) := by show _ < _; have := Hy.out; have := hu2.out; omega
          have Hst := show Hid _ from modL_high Hn.out Hb.out Hnb.out Hy.out HL.out
          clear hge
          go_upto_region 8 with fail
          refine wp_region_vals 39 (by kernel_rfl) (by kernel_rfl) (by rfl) (valMS u y) (fun L => Kp [(bO, if L 6 = true then numA y else numA u, 50), (bR, numA 0, 50), (bT, A8 (dig t), 63)] w) hK6.drew ?_ ?_
          · intro L ac wc i o hF hLi ho hd K hK
            rcases i with _ | _ | _ | _ | _ | _ | _ | i
            · have ho' := ho
              obtain rfl := Option.some.inj ho
              have f3 : ac.tmps.getD 3 undef = .pointer (some ⟨bO, 0, none⟩) := slotv hF 0 hLi 3 (by kernel_rfl)
              refine step_do ho' (wanted_free rfl) ?_
              have hn6 := notyet hF 0 hLi 6 rfl (by kernel_rfl)
              have hj := hF.j
              rw [hn6] at hj
              exact wp_load_own 50 (.tmp 3) rfl bO f3 (numA u) _ 50 hj.h1 Tryz.underlying50 rfl (numA_info _) (hK _ _ (.inr rfl) hF.j)
            · have ho' := ho
              obtain rfl := Option.some.inj ho
              refine step_do ho' (wanted_free rfl) ?_
              unfold Oper.wp
              go_simp
              refine (L_any _).mono ?_
              rintro e w' ⟨rfl, hB⟩
              exact hK _ _ (.inr rfl) (hF.j.below hB)
            · have ho' := ho
              obtain rfl := Option.some.inj ho
              have f33 : ac.tmps.getD 33 undef = .agg (numA u) := valv hF hd 0 rfl rfl (by kernel_rfl)
              have f34 : ac.tmps.getD 34 undef = .agg (numA LL) := valv hF hd 1 rfl rfl (by kernel_rfl)
              refine step_do ho' (wanted_free rfl) ?_
              unfold Oper.wp
              go_simp
              refine (sub_big hu LL_lt Hy.out _).mono ?_
              rintro e w' ⟨rfl, hB⟩
              exact hK _ _ (.inr rfl) (hF.j.below hB)
            · have ho' := ho
              obtain rfl := Option.some.inj ho
              have f35 : ac.tmps.getD 35 undef = .tuple #[.agg (numA y), .int .u64 0] := valv hF hd 2 rfl rfl (by kernel_rfl)
              refine step_do ho' (wanted_free rfl) ?_
              unfold Oper.wp
              go_simp
              exact hK _ _ (.inr rfl) hF.j
            · have ho' := ho
              obtain rfl := Option.some.inj ho
              have f32 : ac.tmps.getD 32 undef = .tuple #[.agg (numA y), .int .u64 0] := valv hF hd 3 rfl rfl (by kernel_rfl)
              refine step_do ho' (wanted_free rfl) ?_
              unfold Oper.wp
              go_simp
              exact hK _ _ (.inr rfl) hF.j
            · have ho' := ho
              obtain rfl := Option.some.inj ho
              have f32 : ac.tmps.getD 32 undef = .tuple #[.agg (numA y), .int .u64 0] := valv hF hd 3 rfl rfl (by kernel_rfl)
              refine step_do ho' (wanted_free rfl) ?_
              unfold Oper.wp
              go_simp
              exact hK _ _ (.inr rfl) hF.j
            · have ho' := ho
              obtain rfl := Option.some.inj ho
              have f3 : ac.tmps.getD 3 undef = .pointer (some ⟨bO, 0, none⟩) := slotv hF 6 hLi 3 (by kernel_rfl)
              have f36 : ac.tmps.getD 36 undef = .agg (numA y) := valv hF hd 4 rfl rfl (by kernel_rfl)
              refine step_do ho' (wanted_free rfl) ?_
              have hj := hF.j
              rw [hLi] at hj
              refine wp_store_own 50 (.tmp 3) (.tmp 36) rfl bO (numA y) f3 f36 hj.h1 (numA_sizes _ _) (numA_info _) (numA_one _) rfl ?_
              exact hK undef _ (.inl rfl) (Kp.set hj hnot hleO (numA_sizes _ _))
            · cases ho
          · intro L wz hL hK7
            rw [hL 6 (by decide)] at hK7
            simp only [putAll, valMS, Act.put, List.setIfInBounds_toArray, List.set_cons_succ, List.set_cons_zero]
            clear hL hK6
            go_wp2_with fail
            exact ⟨⟨i, y, by omega, rfl, HL.out, Hst.out, hK7⟩, by simp [intOf]⟩
end Go.Proofs.YtfkcphbbabaefaaGreatDoor
namespace Go.Proofs.YtfkcphbbabaefaaGreatDoor
open Go.RowKit
theorem vb_bound (f : Nat → Nat) (n : Nat) (hn : n ≤ 64) (hf : ∀ i, i < n → f i < 256) : vb f n < R512 :=
  Nat.lt_of_lt_of_le (vb_lt f n hf) (Nat.le_trans (Nat.pow_le_pow_right (by decide) hn) (by decide))
theorem A8_bytes {x k c : Nat} (hx : x < 256 ^ k) (hc : c < 256) (hk : k / 8 < 8) : (A8 (dig x)).setIfInBounds (k / 8) (.int .u64 ((dig x (k / 8) + c * 256 ^ (k % 8) : Nat) : Int)) = A8 (dig (x + c * 256 ^ k)) := by
  rw [A8_set _ _ _ hk, Nat.mul_comm c (256 ^ k)]
  exact A8_congr fun j _ => (dig_more hx hc j).symm
set_option maxRecDepth 100000 in
set_option maxHeartbeats 8000000 in
theorem modLs_any (f : Nat → Nat) (n bS cap : Nat) (hn : n ≤ 64) (hf : ∀ i, i < n → f i < 256) (w : World) (hbS : bS < w.heap.size) (hcell : ∀ i, i < n → w.cell? ⟨bS, i, none⟩ = some (.int .u8 (f i : Int))) :
    Calls Tryz.prog 26 #[.slice (some ⟨bS, 0, none⟩) n cap] w fun x w' => x = .returned (.agg (B32 (bdig (vb f n % LL)))) ∧ Below w.heap.size w w' := by
  have hz := (zero_of_info zeroB32).1
  have hz8 := (zero_of_info zeroA8).1
  go_enter Tryz.func26, Tryz.ntmps26
  go_wp2_with fail
  have hK0 := ((Kp.nil w).alloc (B32 fun _ => 0) 22).alloc (A8 (dig 0)) 63
  rw [World.size_alloc] at hK0
  rw [show (A8 fun _ => 0) = A8 (dig 0) from rfl]
  generalize (w.alloc (.cells (B32 fun _ => 0) 22)).alloc (.cells (A8 (dig 0)) 63) = W at *
  obtain ⟨bR, HR⟩ : ∃ bR, Hid (w.heap.size = bR) := ⟨_, rfl⟩
  obtain ⟨bO, HO⟩ : ∃ bO, Hid (bR + 1 = bO) := ⟨_, rfl⟩
  have hle : w.heap.size ≤ bR := Nat.le_of_eq HR.out
  have hleO : w.heap.size ≤ bO := by have := HO.out; omega
  have n2 : bR ≠ bO := by have := HO.out; omega
  rw [HR.out, HO.out] at hK0 ⊢
  have hnot : ∀ p ∈ [(bR, B32 fun _ => 0, 22)], p.1 ≠ bO := by simp; omega
  go_loopw [4] (fun ii wr => ∃ (k x : Nat), k ≤ n ∧ ii = .int .i64 (k : Int) ∧ x < 256 ^ k ∧ Hid (vb f k = x) ∧ Kp [(bO, A8 (dig x), 63), (bR, B32 fun _ => 0, 22)] w wr) (fun ii _ => n - (intOf ii).toNat)
  case atStart => exact ⟨0, 0, by omega, rfl, by decide, rfl, hK0⟩
  case round =>
    obtain ⟨k, x, hk, rfl, hx, Hx, hKr⟩ := hrel
    have hk0 : (0 : Int) ≤ (k : Int) := by omega
    by_cases hlt : k < n
    · have hki : (k : Int) < (n : Int) := by omega
      have hd4 : k / 8 < 8 := by omega
      have cA := ((bcell hKr.2).1 bS k hbS).trans (hcell k hlt)
      have cO := hKr.h1.cell (A8_at (dig x) (k / 8) hd4)
      have fO := hKr.h1.frozen (k / 8)
      have hc := hf k hlt
      have hdv : (k : Int).tdiv 8 = ((k / 8 : Nat) : Int) := by rw [Int.tdiv_eq_ediv_of_nonneg (by omega)]; omega
      have hmd : (k : Int).tmod 8 = ((k % 8 : Nat) : Int) := by rw [Int.tmod_eq_emod_of_nonneg (by omega)]; omega
      have hd40 : (0 : Int) ≤ ((k / 8 : Nat) : Int) := by omega
      have hd41 : ((k / 8 : Nat) : Int) < 8 := by omega
      have hm0 : (0 : Int) ≤ 8 * ((k % 8 : Nat) : Int) := by omega
      have hm1 : 8 * ((k % 8 : Nat) : Int) < 64 := by omega
      have hm2 : ((k % 8 : Nat) : Int) < 8 := by omega
      have hm3 : (0 : Int) ≤ ((k % 8 : Nat) : Int) := by omega
      have hs := shl_byte (k := k) hc
      have hor := or_byte hx hc
      have hK1 := Kp.setCell (i := k / 8) (v := .int .u64 ((dig x (k / 8) + f k * 256 ^ (k % 8) : Nat) : Int)) hKr hnot hleO
      rw [A8_bytes hx hc hd4] at hK1
      have HK2 := show Hid _ from hK1
      have Hnew : Hid (x + f k * 256 ^ k < 256 ^ (k + 1) ∧ vb f (k + 1) = x + f k * 256 ^ k) := by
        have e : vb f (k + 1) = x + f k * 256 ^ k := by rw [vb, Hx.out]
        exact ⟨by rw [← e]; exact vb_lt f (k + 1) fun i hi => hf i (by omega), e⟩
      clear hK1
      have hc0 : (0 : Int) ≤ ((f k : Nat) : Int) := by omega
      have hc1 : ((f k : Nat) : Int) < 256 := by omega
      generalize x + f k * 256 ^ k = x' at *
      generalize dig x (k / 8) + f k * 256 ^ (k % 8) = v at *
      generalize f k * 256 ^ (k % 8) = u at *
      generalize hCC : f k = c at cA hs hc0 hc1
      clear hCC
      generalize dig x (k / 8) = d at *
      generalize k / 8 = D at *
      generalize k % 8 = M at *
      go_wp2_with fail
      go_region
      go_wp2_with fail
      refine ⟨⟨k + 1, x', by omega, by go_num, Hnew.out.1, Hnew.out.2, Kp.below HK2.out ((Below.refl _ _).drew)⟩, by simp [intOf]; omega⟩
    · have hki : ¬ (k : Int) < (n : Int) := by omega
      have hxR : x < R512 := by rw [← Hx.out]; exact vb_bound f k (by omega) fun i hi => hf i (by omega)
      have He : Hid (vb f n % LL = x % LL) := by
        show _ = _
        rw [← Hx.out, show k = n by omega]
      go_upto_region 6 with fail
      go_wp2_with (refine wpList_load_own (by rfl) 63 (.tmp 3) (by rfl) bO (by rfl) (A8 (dig x)) _ hKr.h1 Tryz.underlying63 (by rfl) infoA8 ?_)
      refine (modL_any x hxR _).mono ?_
      rintro e w1 ⟨rfl, b1⟩
      have hK1 := hKr.below b1
      go_wp2_with fail
      refine (bytesOf_any _ _).mono ?_
      rintro e w2 ⟨rfl, b2⟩
      have hK2 := hK1.below b2
      go_wp2_with (refine wpList_store_own (by rfl) 22 (.tmp 2) (.tmp 29) (by rfl) bR 0 (B32 (bdig (x % LL))) (by rfl) (by rfl) hK2.h2 (B32_le _ _) (B32_info _) (B32_one _) (by rfl) ?_)
      refine bodyPost_ret (results_own Tryz.results26 _ _ bR (B32 (bdig (x % LL))) _ (by rfl) (own_setCells hK2.h2 (B32_sizes _ _)) Tryz.underlying22 rfl (B32_info _)) rfl ⟨by rw [He.out], ?_⟩
      exact Below.setCells _ _ _ _ hle hK2.2
set_option maxRecDepth 100000 in
set_option maxHeartbeats 4000000 in
theorem below_any (a : Nat) (ha : a < R256) (w : World) : Calls Tryz.prog 31 #[.agg (B32 (bdig a))] w fun x w' => x = .returned (.bool (decide (a < LL))) ∧ Below w.heap.size w w' := by
  go_enter Tryz.func31, Tryz.ntmps31
  go_upto_region 1 with fail
  have hK := (Kp.nil w).alloc (B32 (bdig a)) 22
  generalize w.alloc (.cells (B32 (bdig a)) 22) = W at *
  obtain ⟨bA, HA⟩ : ∃ bA, Hid (w.heap.size = bA) := ⟨_, rfl⟩
  rw [HA.out] at hK ⊢
  go_wp2_with (refine wpList_load_own (by rfl) 22 (.tmp 1) (by rfl) bA (by rfl) (B32 (bdig a)) _ hK.h1 Tryz.underlying22 (by rfl) (B32_info _) ?_)
  refine (of_any a ha W).mono ?_
  rintro e w1 ⟨rfl, b1⟩
  have bw := bel hK.2 b1
  go_wp2_with fail
  refine (L_any w1).mono ?_
  rintro e w2 ⟨rfl, b2⟩
  have bw := bel bw b2
  go_wp2_with fail
  refine (less_any a LL ha LL_lt w2).mono ?_
  rintro e w3 ⟨rfl, b3⟩
  have bw := bel bw b3
  go_wp2
  go_ret
  exact ⟨rfl, bw⟩
end Go.Proofs.YtfkcphbbabaefaaGreatDoor
