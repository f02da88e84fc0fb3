/- Of the texts E9, EC, E12: what the card of this claim reaches. -/
import Derived.Test.YtgibllaifnnfkaaGreatDoorXE8
import Derived.Test.YtgibllaifnnfkaaGreatDoorXE4
namespace Go.Proofs.YtgibllaifnnfkaaGreatDoor
open Go.RowKit
theorem pow_step0 {a e i n : Nat} (hn : n = a ^ (e / 2 ^ (i + 1)) % pp) (hb : e / 2 ^ i % 2 = 0) : n * n % pp = a ^ (e / 2 ^ i) % pp := by
  have h : e / 2 ^ i = e / 2 ^ (i + 1) * 2 := by
    have : e / 2 ^ (i + 1) = e / 2 ^ i / 2 := by rw [Nat.pow_succ, Nat.div_div_eq_div_mul]
    omega
  rw [h, Nat.pow_mul, Nat.pow_two, hn, ← Nat.mul_mod]
theorem pow_step1 {a e i n : Nat} (hn : n = a ^ (e / 2 ^ (i + 1)) % pp) (hb : e / 2 ^ i % 2 = 1) : n * n % pp * a % pp = a ^ (e / 2 ^ i) % pp := by
  have h : e / 2 ^ i = e / 2 ^ (i + 1) * 2 + 1 := by
    have : e / 2 ^ (i + 1) = e / 2 ^ i / 2 := by rw [Nat.pow_succ, Nat.div_div_eq_div_mul]
    omega
  rw [h, Nat.pow_succ, Nat.pow_mul, Nat.pow_two, hn]
  generalize a ^ (e / 2 ^ (i + 1)) = x
  rw [← Nat.mul_mod, Nat.mod_mul_mod]
theorem pow_start (a e : Nat) (he : e < R256) : 1 = a ^ (e / 2 ^ 256) % pp := by
  rw [Nat.div_eq_of_lt (show e < 2 ^ 256 from he), Nat.pow_zero, one_mod]
set_option maxRecDepth 100000 in
set_option maxHeartbeats 8000000 in
theorem pow_any (a e : Nat) (ha : a < R256) (he : e < R256) (w : World) : Calls Tryz.prog 104 #[.agg (numA a), .agg (numA e)] w fun x w' => x = .returned (.agg (numA (a ^ e % pp))) ∧ Below w.heap.size w w' := by
  obtain ⟨r, Hr⟩ : ∃ r, Hid (a ^ e % pp = r) := ⟨_, rfl⟩
  rw [Hr.out]
  have hz := (zero_of_info zeroLit).1
  go_enter Tryz.func104, Tryz.ntmps104
  go_upto_region 1 with fail
  have hK0 := (((Kp.nil w).alloc (numA a) 54).alloc (numA e) 54).alloc (numA 0) 54
  rw [World.size_alloc, World.size_alloc] at hK0
  rw [show (#[.int .u64 0, .int .u64 0, .int .u64 0, .int .u64 0] : Array Value) = numA 0 from rfl]
  generalize ((w.alloc (.cells (numA a) 54)).alloc (.cells (numA e) 54)).alloc (.cells (numA 0) 54) = W at *
  obtain ⟨bA, HA⟩ : ∃ bA, Hid (w.heap.size = bA) := ⟨_, rfl⟩
  obtain ⟨bE, HE⟩ : ∃ bE, Hid (bA + 1 = bE) := ⟨_, rfl⟩
  obtain ⟨bR, HR⟩ : ∃ bR, Hid (bE + 1 = bR) := ⟨_, rfl⟩
  have hle : w.heap.size ≤ bR := by have := HA.out; have := HE.out; have := HR.out; omega
  rw [HA.out, HE.out, HR.out] at hK0 ⊢
  have hK1 := hK0.alloc (numA 1) 54
  have ne1 := fun p hp => Nat.ne_of_lt (hK0.1 p hp).lt
  have hle5 := hK0.2.size
  go_upto_region 2 with (refine wpList_store_new (by rfl) 54 (.tmp 5) (.tmp 7) (by rfl) _ (numA 1) (by rfl) (by rw [numA_word 1 (by decide)]; rfl) (numA_info 1) (lit4_size _ _ _ _ _) (numA_one 1) (by rfl) ?_)
  generalize W.alloc (.cells (numA 1) 54) = W1 at *
  generalize W.heap.size = b5 at *
  have m1 : bR ≠ b5 := ne1 (bR, numA 0, 54) (by simp)
  have m2 : bE ≠ b5 := ne1 (bE, numA e, 54) (by simp)
  have m3 : bA ≠ b5 := ne1 (bA, numA a, 54) (by simp)
  clear ne1 hK0
  go_wp2_with fail
  go_loopw [6] (fun ii wr => ∃ (j n : Nat), j ≤ 256 ∧ ii = .int .i64 ((j : Int) - 1) ∧ n < R256 ∧ Hid (n = a ^ (e / 2 ^ j) % pp) ∧ Kp [(b5, numA n, 54), (bR, numA 0, 54), (bE, numA e, 54), (bA, numA a, 54)] w wr) (fun ii _ => (intOf ii + 1).toNat)
  case atStart => exact ⟨256, 1, by omega, rfl, by decide, pow_start a e he, hK1⟩
  case round =>
    obtain ⟨j, n, hj, rfl, hn, Hn, hKr⟩ := hrel
    cases j with
    | zero =>
      rw [show (((0 : Nat) : Int) - 1) = -1 from rfl]
      have Hend : Hid (n = r) := by
        show _ = _
        rw [Hn.out, Nat.pow_zero, Nat.div_one, Hr.out]
      go_upto_region 8 with fail
      go_wp2_with (first
        | refine wpList_load_own (by rfl) 54 (.tmp 5) (by rfl) b5 (by rfl) (numA n) _ (hKr.at b5 (numA n) 54 (by simp)) Tryz.underlying54 (by rfl) (numA_info n) ?_
        | refine wpList_store_own (by rfl) 54 (.tmp 4) (.tmp 28) (by rfl) bR 0 (numA n) (by rfl) (by rfl) (hKr.at bR (numA 0) 54 (by simp)) (Nat.le_refl _) (numA_info n) (numA_one n) (by rfl) ?_)
      refine bodyPost_ret (results_own Tryz.results104 _ _ bR (numA n) _ (by rfl) (own_setCells (hKr.at bR (numA 0) 54 (by simp)) (numA_sizes n 0)) Tryz.underlying54 rfl (numA_info n)) rfl ⟨by rw [Hend.out], ?_⟩
      exact Below.setCells _ _ _ _ hle hKr.2
    | succ i =>
      rw [show (((i + 1 : Nat) : Int) - 1) = (i : Int) by omega]
      have hi0 : (0 : Int) ≤ (i : Int) := by omega
      have hi1 : (i : Int) < 256 := by omega
      go_upto_region 5 with fail
      go_wp2_with (refine wpList_load_own (by rfl) 54 (.tmp 5) (by rfl) b5 (by rfl) (numA n) _ (hKr.at b5 (numA n) 54 (by simp)) Tryz.underlying54 (by rfl) (numA_info n) ?_)
      refine (fmul_any n n hn hn wr).mono ?_
      rintro x w1 ⟨rfl, hB1⟩
      have hK2 := hKr.below hB1
      obtain ⟨q, Hq⟩ : ∃ q, Hid (n * n % pp = q) := ⟨_, rfl⟩
      have hq : q < R256 := by rw [← Hq.out]; exact lt_of_mod
      rw [Hq.out]
      have hK3 := hK2.set (A' := numA q) (by simp; omega) hle5 (numA_sizes q n)
      go_upto_region 6 with (refine wpList_store_own (by rfl) 54 (.tmp 5) (.tmp 14) (by rfl) b5 0 (numA q) (by rfl) (by rfl) (hK2.at b5 (numA n) 54 (by simp)) (Nat.le_refl _) (numA_info q) (numA_one q) (by rfl) ?_)
      generalize w1.setCells b5 0 (numA q).toList = W2 at *
      clear hK2 hB1
      have hdv : (i : Int).tdiv 64 = ((i / 64 : Nat) : Int) := by rw [Int.tdiv_eq_ediv_of_nonneg (by omega)]; omega
      have hmd : (i : Int).tmod 64 = ((i % 64 : Nat) : Int) := by rw [Int.tmod_eq_emod_of_nonneg (by omega)]; omega
      have hd4 : i / 64 < 4 := by omega
      have cE := (hK3.at bE (numA e) 54 (by simp)).cell (numA_at e (i / 64) hd4)
      have hbit := bit_u64 e i
      have hd40 : (0 : Int) ≤ ((i / 64 : Nat) : Int) := by omega
      have hd41 : ((i / 64 : Nat) : Int) < 4 := by omega
      have hm0 : (0 : Int) ≤ ((i % 64 : Nat) : Int) := by omega
      have hm1 : ((i % 64 : Nat) : Int) < 64 := by omega
      generalize dig e (i / 64) = d at *
      generalize i / 64 = D at *
      generalize i % 64 = M at *
      have hb2 : e / 2 ^ i % 2 = 0 ∨ e / 2 ^ i % 2 = 1 := by omega
      rcases hb2 with hb | hb
      · have Hst := show Hid _ from pow_step0 Hn.out hb
        rw [hb] at hbit
        clear hb
        go_wp2_with fail
        exact ⟨⟨i, q, by omega, rfl, hq, by show _ = _; rw [← Hq.out]; exact Hst.out, hK3⟩, by simp [intOf]⟩
      · have Hst := show Hid _ from pow_step1 Hn.out hb
        rw [hb] at hbit
        clear hb
        go_upto_region 7 with fail
        go_wp2_with (first
          | refine wpList_load_own (by rfl) 54 (.tmp 5) (by rfl) b5 (by rfl) (numA q) _ (hK3.at b5 (numA q) 54 (by simp)) Tryz.underlying54 (by rfl) (numA_info q) ?_
          | refine wpList_load_own (by rfl) 54 (.tmp 2) (by rfl) bA (by rfl) (numA a) _ (hK3.at bA (numA a) 54 (by simp)) Tryz.underlying54 (by rfl) (numA_info a) ?_)
        refine (fmul_any q a hq ha W2).mono ?_
        rintro x w3 ⟨rfl, hB3⟩
        have hK4 := hK3.below hB3
        obtain ⟨q2, Hq2⟩ : ∃ q2, Hid (q * a % pp = q2) := ⟨_, rfl⟩
        have hq2 : q2 < R256 := by rw [← Hq2.out]; exact lt_of_mod
        rw [Hq2.out]
        have hK5 := hK4.set (A' := numA q2) (by simp; omega) hle5 (numA_sizes q2 q)
        go_wp2_with (refine wpList_store_own (by rfl) 54 (.tmp 5) (.tmp 27) (by rfl) b5 0 (numA q2) (by rfl) (by rfl) (hK4.at b5 (numA q) 54 (by simp)) (Nat.le_refl _) (numA_info q2) (numA_one q2) (by rfl) ?_)
        exact ⟨⟨i, q2, by omega, rfl, hq2, by show _ = _; rw [← Hq2.out, ← Hq.out]; exact Hst.out, hK5⟩, by simp [intOf]⟩
set_option maxRecDepth 100000 in
set_option maxHeartbeats 4000000 in
theorem inv_any (a : Nat) (ha : a < R256) (w : World) : Calls Tryz.prog 71 #[.agg (numA a)] w fun x w' => x = .returned (.agg (numA (finv a))) ∧ Below w.heap.size w w' := by
  obtain ⟨r, Hr⟩ : ∃ r, Hid (finv a = r) := ⟨_, rfl⟩
  rw [Hr.out]
  obtain ⟨e, He⟩ : ∃ e, Hid (pp = e + 2) := ⟨pp - 2, by show _ = _; exact (Nat.sub_add_cancel (by decide)).symm⟩
  have he : e < R256 := by have h1 := He.out; have h2 : pp < R256 := by decide
                           omega
  have Hend : Hid (a ^ e % pp = r) := by
    show _ = _
    rw [← Hr.out, finv, show pp - 2 = e from by rw [He.out]; exact Nat.add_sub_cancel e 2]
  have hz := (zero_of_info zeroLit).1
  go_enter Tryz.func71, Tryz.ntmps71
  go_upto_region 1 with fail
  have hK0 := ((Kp.nil w).alloc (numA a) 54).alloc (numA 0) 54
  rw [World.size_alloc] at hK0
  rw [show (#[.int .u64 0, .int .u64 0, .int .u64 0, .int .u64 0] : Array Value) = numA 0 from rfl]
  generalize (w.alloc (.cells (numA a) 54)).alloc (.cells (numA 0) 54) = W at *
  obtain ⟨bA, HA⟩ : ∃ bA, Hid (w.heap.size = bA) := ⟨_, rfl⟩
  obtain ⟨bR, HR⟩ : ∃ bR, Hid (bA + 1 = bR) := ⟨_, rfl⟩
  have hle : w.heap.size ≤ bR := by have := HA.out; have := HR.out; omega
  rw [HA.out, HR.out] at hK0 ⊢
  go_wp2_with fail
  refine (P_any W).mono ?_
  rintro x w1 ⟨rfl, hB1⟩
  have hK1 := hK0.below hB1
  go_wp2_with fail
  rw [show (#[.int .u64 2, .int .u64 0, .int .u64 0, .int .u64 0] : Array Value) = numA 2 from (numA_word 2 (by decide)).symm]
  refine (sub_big (by decide) (by decide) He.out w1).mono ?_
  rintro x w2 ⟨rfl, hB2⟩
  have hK2 := hK1.below hB2
  have hK3 := hK2.alloc (numA e) 54
  go_upto_region 2 with (refine wpList_store_new (by rfl) 54 (.tmp 3) (.tmp 9) (by rfl) _ (numA e) (by rfl) (by rfl) (numA_info e) (lit4_size _ _ _ _ _) (numA_one e) (by rfl) ?_)
  generalize w2.alloc (.cells (numA e) 54) = W3 at *
  generalize w2.heap.size = b3 at *
  clear hK0 hK1 hK2
  go_wp2_with (first
    | refine wpList_load_own (by rfl) 54 (.tmp 1) (by rfl) bA (by rfl) (numA a) _ (hK3.at bA (numA a) 54 (by simp)) Tryz.underlying54 (by rfl) (numA_info a) ?_
    | refine wpList_load_own (by rfl) 54 (.tmp 3) (by rfl) b3 (by rfl) (numA e) _ (hK3.at b3 (numA e) 54 (by simp)) Tryz.underlying54 (by rfl) (numA_info e) ?_)
  refine (pow_any a e ha he W3).mono ?_
  rintro x w4 ⟨rfl, hB4⟩
  have hK4 := hK3.below hB4
  rw [Hend.out]
  go_wp2_with (refine wpList_store_own (by rfl) 54 (.tmp 2) (.tmp 13) (by rfl) bR 0 (numA r) (by rfl) (by rfl) (hK4.at bR (numA 0) 54 (by simp)) (Nat.le_refl _) (numA_info r) (numA_one r) (by rfl) ?_)
  refine bodyPost_ret (results_own Tryz.results71 _ _ bR (numA r) _ (by rfl) (own_setCells (hK4.at bR (numA 0) 54 (by simp)) (numA_sizes r 0)) Tryz.underlying54 rfl (numA_info r)) rfl ⟨rfl, ?_⟩
  exact Below.setCells _ _ _ _ hle hK4.2
end Go.Proofs.YtgibllaifnnfkaaGreatDoor
namespace Go.Proofs.YtgibllaifnnfkaaGreatDoor
open Go.RowKit
theorem dig_half (a k : Nat) : dig (a / 2) k = dig a k / 2 + dig a (k + 1) % 2 * 9223372036854775808 := by
  unfold dig
  rw [Nat.div_div_eq_div_mul, Nat.mul_comm 2, ← Nat.div_div_eq_div_mul, Nat.pow_succ, ← Nat.div_div_eq_div_mul]
  generalize a / 18446744073709551616 ^ k = x
  omega
theorem dig_top {a : Nat} (h : a < R256) : dig a 4 = 0 := by
  unfold dig
  rw [pow4, Nat.div_eq_of_lt h, Nat.zero_mod]
theorem or_join (x y : Nat) (hx : x < 18446744073709551616) : bits .or .u64 ((x / 2 : Nat) : Int) ((y % 2 * 9223372036854775808 : Nat) : Int) = ((x / 2 + y % 2 * 9223372036854775808 : Nat) : Int) := by
  rw [u64_or_nat _ _ (by omega) (by omega), Nat.or_comm, nat_join 63 (y % 2 * 9223372036854775808) (x / 2) (Nat.mul_mod_left _ _) (by omega), Nat.add_comm]
theorem shl63 (y : Nat) : IntKind.u64.wrap ((y : Int) * 9223372036854775808) = ((y % 2 * 9223372036854775808 : Nat) : Int) := by
  simp [IntKind.wrap, IntKind.bits, IntKind.signed]; omega
set_option maxRecDepth 100000 in
set_option maxHeartbeats 8000000 in
theorem half_any (a : Nat) (ha : a < R256) (w : World) : Calls Tryz.prog 105 #[.agg (numA a)] w fun x w' => x = .returned (.agg (numA (a / 2))) ∧ Below w.heap.size w w' := by
  have hz := (zero_of_info zeroNum).1
  go_enter Tryz.func105, Tryz.ntmps105
  go_wp2_with fail
  have hK0 := (((Kp.nil w).alloc (numA a) 54).alloc (A4 fun _ => 0) 54).alloc (A4 fun _ => 0) 54
  rw [World.size_alloc, World.size_alloc] at hK0
  generalize ((w.alloc (.cells (numA a) 54)).alloc (.cells (A4 fun _ => 0) 54)).alloc (.cells (A4 fun _ => 0) 54) = W at *
  obtain ⟨bA, HA⟩ : ∃ bA, Hid (w.heap.size = bA) := ⟨_, rfl⟩
  obtain ⟨bR, HR⟩ : ∃ bR, Hid (bA + 1 = bR) := ⟨_, rfl⟩
  obtain ⟨bO, HO⟩ : ∃ bO, Hid (bR + 1 = bO) := ⟨_, rfl⟩
  have hle : w.heap.size ≤ bR := by have := HA.out; have := HR.out; omega
  have hleO : w.heap.size ≤ bO := by have := HO.out; omega
  have n1 : bA ≠ bO := by have := HR.out; have := HO.out; omega
  have n2 : bR ≠ bO := by have := HO.out; omega
  rw [HA.out, HR.out, HO.out] at hK0 ⊢
  go_loopw [4] (fun ii wr => ∃ (k : Nat) (h : Nat → Nat), k ≤ 4 ∧ ii = .int .i64 (k : Int) ∧ (∀ j, j < k → h j = dig (a / 2) j) ∧ Kp [(bO, A4 h, 54), (bR, A4 fun _ => 0, 54), (bA, numA a, 54)] w wr) (fun ii _ => 4 - (intOf ii).toNat)
  case atStart => exact ⟨0, fun _ => 0, by omega, rfl, fun j hj => by omega, hK0⟩
  case round =>
    obtain ⟨k, h, hk, rfl, hh, hKr⟩ := hrel
    have hk0 : (0 : Int) ≤ (k : Int) := by omega
    by_cases hlt : k < 4
    · have hki : (k : Int) < 4 := by omega
      have cA := (hKr.at bA (numA a) 54 (by simp)).cell (numA_at a k hlt)
      have cO := (hKr.at bO (A4 h) 54 (by simp)).cell (A4_at h k hlt)
      have fO := (hKr.at bO (A4 h) 54 (by simp)).frozen k
      have hd := dig_lt a k
      have hdv : ((dig a k : Nat) : Int) / 2 = ((dig a k / 2 : Nat) : Int) := by omega
      have Hst := show Hid _ from dig_half a k
      have hK1 := Kp.setCell (i := k) (v := .int .u64 ((dig a k / 2 : Nat) : Int)) hKr (by simp; omega) hleO
      rw [A4_set h k _ hlt] at hK1
      by_cases h3 : k < 3
      · have hk3 : (k : Int) < 3 := by omega
        have cA1 := (hK1.at bA (numA a) 54 (by simp)).cell (numA_at a (k + 1) (by omega))
        have cO1 := (hK1.at bO (A4 (upd h k (dig a k / 2))) 54 (by simp)).cell (A4_at _ k hlt)
        rw [upd_same] at cO1
        have fO1 := (hK1.at bO (A4 (upd h k (dig a k / 2))) 54 (by simp)).frozen k
        have hs := shl63 (dig a (k + 1))
        have hor := or_join (dig a k) (dig a (k + 1)) hd
        have hk1 : (k : Int) + 1 < 4 := by omega
        have hk10 : (0 : Int) ≤ (k : Int) + 1 := by omega
        have hkt : ((k : Int) + 1).toNat = k + 1 := by omega
        generalize dig a (k + 1) = d1 at *
        generalize dig a k = d at *
        rw [← Hst.out] at hor
        generalize hE : dig (a / 2) k = E at hor
        have HEE := show Hid _ from hE
        clear hE
        generalize d1 % 2 * 9223372036854775808 = sh at *
        generalize d / 2 = dh at *
        go_upto_region 7 with fail
        generalize hW2 : wr.setCell ⟨bO, k, none⟩ (.int .u64 (dh : Int)) = W2 at *
        clear hW2
        go_region
        go_wp2_with fail
        have hK2 := Kp.setCell (i := k) (v := .int .u64 (E : Int)) hK1 (by simp; omega) hleO
        rw [A4_set _ k _ hlt] at hK2
        refine ⟨⟨k + 1, upd (upd h k dh) k E, by omega, by go_num, fun j hj => ?_, hK2.below ((Below.refl _ _).drew)⟩, by simp [intOf]; omega⟩
        by_cases e : j = k
        · rw [e, upd_same]; exact HEE.out.symm
        · rw [upd_other _ _ _ _ e, upd_other _ _ _ _ e]; exact hh j (by omega)
      · have hk3 : ¬ (k : Int) < 3 := by omega
        have Ht : Hid (dig (a / 2) k = dig a k / 2) := by
          show _ = _
          have hk3' : k = 3 := by omega
          rw [Hst.out, hk3', dig_top ha, Nat.zero_mod, Nat.zero_mul, Nat.add_zero]
        clear Hst
        generalize dig a k / 2 = dh at *
        generalize dig a k = d at *
        go_wp2_with fail
        refine ⟨⟨k + 1, upd h k dh, by omega, by go_num, fun j hj => ?_, hK1⟩, by simp [intOf]; omega⟩
        by_cases e : j = k
        · rw [e, upd_same]; exact Ht.out.symm
        · rw [upd_other _ _ _ _ e]; exact hh j (by omega)
    · have hki : ¬ (k : Int) < 4 := by omega
      have He : Hid (A4 h = numA (a / 2)) := A4_congr fun i hi => hh i (by omega)
      have hinf : (Tryz.prog.info? 54).map (·.size) = some (A4 h).size := infoNum
      go_upto_region 8 with fail
      go_wp2_with (first
        | refine wpList_load_own (by rfl) 54 (.tmp 3) (by rfl) bO (by rfl) (A4 h) _ (hKr.at bO (A4 h) 54 (by simp)) Tryz.underlying54 (by rfl) hinf ?_
        | refine wpList_store_own (by rfl) 54 (.tmp 2) (.tmp 27) (by rfl) bR 0 (A4 h) (by rfl) (by rfl) (hKr.at bR (A4 fun _ => 0) 54 (by simp)) (Nat.le_refl _) hinf (A4_one h) (by rfl) ?_)
      refine bodyPost_ret (results_own Tryz.results105 _ _ bR (A4 h) _ (by rfl) (own_setCells (hKr.at bR (A4 fun _ => 0) 54 (by simp)) rfl) Tryz.underlying54 rfl hinf) rfl ⟨by rw [He.out], ?_⟩
      exact Below.setCells _ _ _ _ hle hKr.2
end Go.Proofs.YtgibllaifnnfkaaGreatDoor
namespace Go.Proofs.YtgibllaifnnfkaaGreatDoor
open Go.RowKit
theorem num_eq (x y : Nat) (hx : x < R256) (hy : y < R256) (w : World) : (Op.equalIn 10000 54 (.agg (numA x)) (.agg (numA y))).run Tryz.prog w = .ok (decide (x = y)) w := by
  have h := run_equalIn_ints (P := Tryz.prog) w 9998 54 52 4 .u64 Tryz.underlying54 Tryz.underlying52 (by kernel_rfl) [(dig x 0 : Int), (dig x 1 : Int), (dig x 2 : Int), (dig x 3 : Int)] [(dig y 0 : Int), (dig y 1 : Int), (dig y 2 : Int), (dig y 3 : Int)] rfl rfl
  have e : ([(dig x 0 : Int), (dig x 1 : Int), (dig x 2 : Int), (dig x 3 : Int)] == [(dig y 0 : Int), (dig y 1 : Int), (dig y 2 : Int), (dig y 3 : Int)]) = decide (x = y) := by
    by_cases hxy : x = y
    · rw [hxy, decide_eq_true rfl]; simp
    · rw [decide_eq_false hxy]
      rw [beq_eq_false_iff_ne]
      intro hl
      apply hxy
      simp only [List.cons.injEq, and_true] at hl
      obtain ⟨h0, h1, h2, h3⟩ := hl
      rw [← vl_num x hx, ← vl_num y hy]
      refine vl_congr 4 fun i hi => ?_
      rcases i with _ | _ | _ | _ | i
      · exact Int.ofNat.inj h0
      · exact Int.ofNat.inj h1
      · exact Int.ofNat.inj h2
      · exact Int.ofNat.inj h3
      · omega
  rw [e] at h
  exact h
theorem half_at {a b : Nat} (ha : a < R256) (hb : a / 2 = b) (w : World) : Calls Tryz.prog 105 #[.agg (numA a)] w fun x w' => x = .returned (.agg (numA b)) ∧ Below w.heap.size w w' := by
  rw [← hb]; exact half_any a ha w
theorem pow_at {a e b : Nat} (ha : a < R256) (he : e < R256) (hb : a ^ e % pp = b) (w : World) : Calls Tryz.prog 104 #[.agg (numA a), .agg (numA e)] w fun x w' => x = .returned (.agg (numA b)) ∧ Below w.heap.size w w' := by
  rw [← hb]; exact pow_any a e ha he w
theorem mul_at {a e b : Nat} (ha : a < R256) (he : e < R256) (hb : a * e % pp = b) (w : World) : Calls Tryz.prog 68 #[.agg (numA a), .agg (numA e)] w fun x w' => x = .returned (.agg (numA b)) ∧ Below w.heap.size w w' := by
  rw [← hb]; exact fmul_any a e ha he w
theorem add_fit {a b s : Nat} (ha : a < R256) (hb : b < R256) (hs : a + b = s) (h : s < R256) (w : World) :
    Calls Tryz.prog 102 #[.agg (numA a), .agg (numA b)] w fun e w' => e = .returned (.tuple #[.agg (numA s), .int .u64 0]) ∧ Below w.heap.size w w' := by
  refine (add_any a b ha hb w).mono ?_
  rintro e w' ⟨⟨d, c, rfl, hd, hc, he⟩, hB⟩
  have : c = 0 ∨ c = 1 := by omega
  rcases this with rfl | rfl
  · obtain rfl : d = s := by omega
    exact ⟨rfl, hB⟩
  · omega
theorem odd_word (x : Nat) : bits .and .u64 (dig x 0 : Int) 1 = ((x % 2 : Nat) : Int) := by
  rw [and1_u64 _ (dig_lt x 0)]
  unfold dig
  rw [Nat.pow_zero, Nat.div_one]
  omega
theorem neg_of (x : Nat) (hx : x < pp) (h2 : x % 2 = 1) : (0 % pp + pp - x % pp) % pp = pp - x := by
  rw [Nat.zero_mod, Nat.zero_add, Nat.mod_eq_of_lt hx, Nat.mod_eq_of_lt]
  have : 0 < x := by omega
  have := pp_pos
  omega
def rootVo : Option Nat → Value
  | some z => .tuple #[.agg (numA z), .bool true]
  | none => .tuple #[.agg (numA 0), .bool false]
def rootV (a : Nat) : Value := rootVo (froot a)
def rootOf (r a : Nat) : Option Nat := if r * r % pp = a % pp then some (evenOf r) else if (r * fi % pp) * (r * fi % pp) % pp = a % pp then some (evenOf (r * fi % pp)) else none
theorem froot_of (a : Nat) : froot a = rootOf (a ^ ((pp + 3) / 8) % pp) a := by
  unfold froot
  generalize a ^ ((pp + 3) / 8) % pp = r
  exact Eq.refl _
theorem rootV_first {a r y m : Nat} (h1 : a ^ ((pp + 3) / 8) % pp = r) (h2 : r * r % pp = y) (hm : a % pp = m) (hym : y = m) : rootV a = .tuple #[.agg (numA (evenOf r)), .bool true] := by
  have : froot a = some (evenOf r) := by
    rw [froot_of, h1]
    unfold rootOf
    rw [if_pos (by rw [h2, hm, hym])]
  unfold rootV
  rw [this, rootVo]
theorem rootV_second {a r y m x z : Nat} (h1 : a ^ ((pp + 3) / 8) % pp = r) (h2 : r * r % pp = y) (hm : a % pp = m) (hym : ¬ y = m) (hx : r * fi % pp = x) (hz : x * x % pp = z) (hzm : z = m) : rootV a = .tuple #[.agg (numA (evenOf x)), .bool true] := by
  have : froot a = some (evenOf x) := by
    rw [froot_of, h1]
    unfold rootOf
    rw [if_neg (by rw [h2, hm]; exact hym), if_pos (by rw [hx, hz, hm, hzm]), hx]
  unfold rootV
  rw [this, rootVo]
theorem rootV_none {a r y m x z : Nat} (h1 : a ^ ((pp + 3) / 8) % pp = r) (h2 : r * r % pp = y) (hm : a % pp = m) (hym : ¬ y = m) (hx : r * fi % pp = x) (hz : x * x % pp = z) (hzm : ¬ z = m) : rootV a = .tuple #[.agg (numA 0), .bool false] := by
  have : froot a = none := by
    rw [froot_of, h1]
    unfold rootOf
    rw [if_neg (by rw [h2, hm]; exact hym), if_neg (by rw [hx, hz, hm]; exact hzm)]
  unfold rootV
  rw [this, rootVo]
end Go.Proofs.YtgibllaifnnfkaaGreatDoor
namespace Go.Proofs.YtgibllaifnnfkaaGreatDoor
open Go.RowKit
set_option maxRecDepth 100000 in
set_option maxHeartbeats 16000000 in
theorem root_any (a : Nat) (ha : a < R256) (w : World) : Calls Tryz.prog 69 #[.agg (numA a)] w fun e w' => e = .returned (rootV a) ∧ Below w.heap.size w w' := by
  obtain ⟨m, Hm⟩ : ∃ m, Hid (a % pp = m) := ⟨_, rfl⟩
  have hm : m < R256 := by rw [← Hm.out]; exact lt_of_mod
  obtain ⟨e0, He0⟩ : ∃ e, Hid (pp + 3 = e) := ⟨_, rfl⟩
  obtain ⟨e1, He1⟩ : ∃ e, Hid (e0 / 2 = e) := ⟨_, rfl⟩
  obtain ⟨e2, He2⟩ : ∃ e, Hid (e1 / 2 = e) := ⟨_, rfl⟩
  obtain ⟨e3, He3⟩ : ∃ e, Hid (e2 / 2 = e) := ⟨_, rfl⟩
  have he0 : e0 < R256 := by rw [← He0.out]; decide
  have he1 : e1 < R256 := by have := He1.out; omega
  have he2 : e2 < R256 := by have := He2.out; omega
  have he3 : e3 < R256 := by have := He3.out; omega
  obtain ⟨r, Hr⟩ : ∃ r, Hid (m ^ e3 % pp = r) := ⟨_, rfl⟩
  have hr : r < pp := by rw [← Hr.out]; exact Nat.mod_lt _ pp_pos
  have hrR : r < R256 := Nat.lt_trans hr (by decide)
  have Hra : Hid (a ^ ((pp + 3) / 8) % pp = r) := by
    show _ = _
    have h8 : (pp + 3) / 8 = e3 := by have h0 := He0.out; have h1 := He1.out; have h2 := He2.out; have h3 := He3.out; omega
    rw [← Hr.out, ← Hm.out, h8, ← Nat.pow_mod]
  obtain ⟨y, Hy⟩ : ∃ y, Hid (r * r % pp = y) := ⟨_, rfl⟩
  have hyR : y < R256 := by rw [← Hy.out]; exact lt_of_mod
  have heq := num_eq y m hyR hm
  have hz := (zero_of_info zeroLit).1
  go_enter Tryz.func69, Tryz.ntmps69
  go_upto_region 1 with fail
  have hK0 := ((Kp.nil w).alloc (numA a) 54).alloc (numA 0) 54
  rw [World.size_alloc] at hK0
  rw [show (#[.int .u64 0, .int .u64 0, .int .u64 0, .int .u64 0] : Array Value) = numA 0 from rfl]
  generalize (w.alloc (.cells (numA a) 54)).alloc (.cells (numA 0) 54) = W at *
  obtain ⟨bA, HA⟩ : ∃ bA, Hid (w.heap.size = bA) := ⟨_, rfl⟩
  obtain ⟨bR, HR⟩ : ∃ bR, Hid (bA + 1 = bR) := ⟨_, rfl⟩
  have hle : w.heap.size ≤ bR := by have := HA.out; have := HR.out; omega
  have hleA : w.heap.size ≤ bA := Nat.le_of_eq HA.out
  have nAR : bA ≠ bR := by have := HR.out; omega
  rw [HA.out, HR.out] at hK0 ⊢
  go_wp2_with (refine wpList_load_own (by rfl) 54 (.tmp 1) (by rfl) bA (by rfl) (numA a) _ (hK0.at bA (numA a) 54 (by simp)) Tryz.underlying54 (by rfl) (numA_info a) ?_)
  refine (mod_any a ha W).mono ?_
  rintro e w1 ⟨rfl, hB1⟩
  have hK1 : Kp [(bA, numA a, 54), (bR, numA 0, 54)] w w1 := (hK0.below hB1).sub (by simp)
  rw [Hm.out]
  have hK2 := hK1.set (A' := numA m) (by simp; omega) hleA (numA_sizes m a)
  go_upto_region 2 with (refine wpList_store_own (by rfl) 54 (.tmp 1) (.tmp 10) (by rfl) bA 0 (numA m) (by rfl) (by rfl) (hK1.at bA (numA a) 54 (by simp)) (Nat.le_refl _) (numA_info m) (numA_one m) (by rfl) ?_)
  generalize w1.setCells bA 0 (numA m).toList = W2 at *
  clear hK0 hK1 hB1
  go_wp2_with fail
  refine (P_any W2).mono ?_
  rintro e w3 ⟨rfl, hB3⟩
  have hK3 := hK2.below hB3
  go_wp2_with fail
  rw [show (#[.int .u64 3, .int .u64 0, .int .u64 0, .int .u64 0] : Array Value) = numA 3 from (numA_word 3 (by decide)).symm]
  refine (add_fit (by decide) (by decide) He0.out he0 w3).mono ?_
  rintro e w4 ⟨rfl, hB4⟩
  have hK4 := hK3.below hB4
  have hK5 := hK4.alloc (numA e0) 54
  go_upto_region 3 with (refine wpList_store_new (by rfl) 54 (.tmp 4) (.tmp 15) (by rfl) _ (numA e0) (by rfl) (by rfl) (numA_info e0) (lit4_size _ _ _ _ _) (numA_one e0) (by rfl) ?_)
  generalize w4.alloc (.cells (numA e0) 54) = W5 at *
  generalize w4.heap.size = b4 at *
  clear hK2 hK3 hK4
  refine wp_region_lv 55 (fun _ => [(b4, numA e0, 54), (bA, numA m, 54), (bR, numA 0, 54)]) [.v (.agg (numA m)), .v (.agg (numA e0)), .v (.agg (numA e1)), .v (.agg (numA e2)), .v (.agg (numA e3)), .v (.agg (numA r)), .mk (numA 0) (numA r) 54 7, .o] hK5 (by kernel_rfl) (by kernel_rfl) (by kernel_rfl) (by rfl) ?_ ?_
  · exact .c (.ld bA (fun _ => .tail _ (.head _)) Tryz.underlying54 rfl (numA_info m)) <| .c (.ld b4 (fun _ => .head _) Tryz.underlying54 rfl (numA_info e0)) <| .c (.ca fun _ _ _ => half_at he0 He1.out _) <| .c (.ca fun _ _ _ => half_at he1 He2.out _) <| .c (.ca fun _ _ _ => half_at he2 He3.out _) <| .c (.ca fun _ _ _ => pow_at hm he3 Hr.out _) <| .c (.al hz) <| .c (.st 6 (numA_info r) (numA_one r)) .nil
  · intro vs wq hJ hf
    obtain ⟨b6, hg⟩ := hf 6 _ _ rfl rfl
    obtain ⟨hle6, hgn, hob6⟩ := hJ.got 6 hg
    have hKq := hJ.1.cons hob6
    have n1 : bA ≠ b6 := hgn (bA, numA m, 54) (by simp)
    have n2 : bR ≠ b6 := hgn (bR, numA 0, 54) (by simp)
    have hKq : Kp [(b6, numA r, 54), (bR, numA 0, 54), (bA, numA m, 54)] w wq := hKq.sub (by simp)
    have q0 : vs 0 = _ := hf 0 _ _ rfl rfl
    have q1 : vs 1 = _ := hf 1 _ _ rfl rfl
    have q2 : vs 2 = _ := hf 2 _ _ rfl rfl
    have q3 : vs 3 = _ := hf 3 _ _ rfl rfl
    have q4 : vs 4 = _ := hf 4 _ _ rfl rfl
    have q5 : vs 5 = _ := hf 5 _ _ rfl rfl
    simp only [putL, Lv.val, Nat.zero_add, Nat.reduceAdd, hg, Act.put, List.setIfInBounds_toArray, List.set_cons_succ, List.set_cons_zero]
    clear q0 q1 q2 q3 q4 q5 hg hf hJ hgn hK5
    go_upto_region 4 with fail
    refine wp_region_lv 55 (fun _ => [(b6, numA r, 54), (bR, numA 0, 54), (bA, numA m, 54)]) [.v (.agg (numA r)), .v (.agg (numA r)), .v (.agg (numA y)), .v (.agg (numA m)), .v (.bool (!decide (y = m)))] hKq (by kernel_rfl) (by kernel_rfl) (by kernel_rfl) (by rfl) ?_ ?_
    · exact .c (.ld b6 (fun _ => .head _) Tryz.underlying54 rfl (numA_info r)) <| .c (.ld b6 (fun _ => .head _) Tryz.underlying54 rfl (numA_info r)) <| .c (.ca fun _ _ _ => mul_at hrR hrR Hy.out _) <| .c (.ld bA (fun _ => .tail _ (.tail _ (.head _))) Tryz.underlying54 rfl (numA_info m)) <| .c (.p2 25 (.agg (numA y)) 26 (.agg (numA m))) .nil
    · intro _ wp hJ _
      have hKp := hJ.1
      simp only [putL, Lv.val, Act.put, List.setIfInBounds_toArray, List.set_cons_succ, List.set_cons_zero]
      by_cases hym : y = m
      · have Hres : Hid (rootV a = .tuple #[.agg (numA (evenOf r)), .bool true]) := rootV_first Hra.out Hy.out Hm.out hym
        have Hym := show Hid _ from hym
        clear hym
        rw [show (!decide (y = m)) = false from by rw [decide_eq_true Hym.out]; rfl]
        go_upto_region 7 with fail
        refine wp_region_lv 55 (fun _ => [(b6, numA r, 54), (bR, numA 0, 54), (bA, numA m, 54)]) [.v (.agg (numA r)), .v (.agg (numA r)), .v (.agg (numA y)), .v (.agg (numA m)), .v (.bool (!decide (y = m)))] hKp (by kernel_rfl) (by kernel_rfl) (by kernel_rfl) (by rfl) ?_ ?_
        · exact .c (.ld b6 (fun _ => .head _) Tryz.underlying54 rfl (numA_info r)) <| .c (.ld b6 (fun _ => .head _) Tryz.underlying54 rfl (numA_info r)) <| .c (.ca fun _ _ _ => mul_at hrR hrR Hy.out _) <| .c (.ld bA (fun _ => .tail _ (.tail _ (.head _))) Tryz.underlying54 rfl (numA_info m)) <| .c (.p2 43 (.agg (numA y)) 44 (.agg (numA m))) .nil
        · intro _ wz hJ _
          have hKz := hJ.1
          simp only [putL, Lv.val, Act.put, List.setIfInBounds_toArray, List.set_cons_succ, List.set_cons_zero]
          rw [show (!decide (y = m)) = false from by rw [decide_eq_true Hym.out]; rfl]
          have cX := (hKz.at b6 (numA r) 54 (by simp)).cell (numA_at r 0 (by omega))
          have hodd := odd_word r
          have hx2 : r % 2 = 0 ∨ r % 2 = 1 := by omega
          rcases hx2 with hx2 | hx2
          · rw [hx2] at hodd
            have Hev : Hid (evenOf r = r) := by show _ = _; unfold evenOf; rw [if_neg (by omega)]
            generalize dig r 0 = d0 at *
            go_upto_region 11 with fail
            go_wp2_with (first
              | refine wpList_load_own (by rfl) 54 (.tmp 6) (by rfl) b6 (by rfl) (numA r) _ (hKz.at b6 (numA r) 54 (by simp)) Tryz.underlying54 (by rfl) (numA_info r) ?_
              | refine wpList_store_own (by rfl) 54 (.tmp 2) (.tmp 54) (by rfl) bR 0 (numA r) (by rfl) (by rfl) (hKz.at bR (numA 0) 54 (by simp)) (Nat.le_refl _) (numA_info r) (numA_one r) (by rfl) ?_)
            refine bodyPost_ret (results_own_tmp Tryz.results69 _ _ bR (numA r) _ (by rfl) (own_setCells (hKz.at bR (numA 0) 54 (by simp)) (numA_sizes r 0)) Tryz.underlying54 rfl (numA_info r)) rfl ⟨?_, Below.setCells _ _ _ _ hle hKz.2⟩
            rw [Hres.out, Hev.out]; rfl
          · rw [hx2] at hodd
            have Hev : Hid (evenOf r = pp - r) := by show _ = _; unfold evenOf; rw [if_pos hx2]
            generalize dig r 0 = d0 at *
            go_upto_region 10 with fail
            go_wp2_with (refine wpList_load_own (by rfl) 54 (.tmp 6) (by rfl) b6 (by rfl) (numA r) _ (hKz.at b6 (numA r) 54 (by simp)) Tryz.underlying54 (by rfl) (numA_info r) ?_)
            rw [show (#[.int .u64 0, .int .u64 0, .int .u64 0, .int .u64 0] : Array Value) = numA 0 from rfl]
            refine (fsub_any 0 r (by decide) hrR wz).mono ?_
            rintro e w5 ⟨rfl, hB5⟩
            have hK5 := hKz.below hB5
            obtain ⟨z, Hz⟩ : ∃ z, Hid (pp - r = z) := ⟨_, rfl⟩
            rw [show (0 % pp + pp - r % pp) % pp = z from by rw [← Hz.out]; exact neg_of r hr hx2]
            have hK6 := hK5.set (A' := numA z) (by simp; omega) hle6 (numA_sizes z r)
            go_upto_region 11 with (refine wpList_store_own (by rfl) 54 (.tmp 6) (.tmp 53) (by rfl) b6 0 (numA z) (by rfl) (by rfl) (hK5.at b6 (numA r) 54 (by simp)) (Nat.le_refl _) (numA_info z) (numA_one z) (by rfl) ?_)
            generalize w5.setCells b6 0 (numA z).toList = W6 at *
            go_wp2_with (first
              | refine wpList_load_own (by rfl) 54 (.tmp 6) (by rfl) b6 (by rfl) (numA z) _ (hK6.at b6 (numA z) 54 (by simp)) Tryz.underlying54 (by rfl) (numA_info z) ?_
              | refine wpList_store_own (by rfl) 54 (.tmp 2) (.tmp 54) (by rfl) bR 0 (numA z) (by rfl) (by rfl) (hK6.at bR (numA 0) 54 (by simp)) (Nat.le_refl _) (numA_info z) (numA_one z) (by rfl) ?_)
            refine bodyPost_ret (results_own_tmp Tryz.results69 _ _ bR (numA z) _ (by rfl) (own_setCells (hK6.at bR (numA 0) 54 (by simp)) (numA_sizes z 0)) Tryz.underlying54 rfl (numA_info z)) rfl ⟨?_, Below.setCells _ _ _ _ hle hK6.2⟩
            rw [Hres.out, Hev.out, Hz.out]; rfl
      · have Hym := show Hid (¬ y = m) from hym
        rw [show (!decide (y = m)) = true from by rw [decide_eq_false hym]; rfl]
        clear hym
        obtain ⟨g0, Hg0⟩ : ∃ e, Hid (pp = e + 1) := ⟨pp - 1, by show _ = _; exact (Nat.sub_add_cancel (by decide)).symm⟩
        obtain ⟨g1, Hg1⟩ : ∃ e, Hid (g0 / 2 = e) := ⟨_, rfl⟩
        obtain ⟨g2, Hg2⟩ : ∃ e, Hid (g1 / 2 = e) := ⟨_, rfl⟩
        have hppR : pp < R256 := by decide
        have hg0 : g0 < R256 := by have := Hg0.out; omega
        have hg1 : g1 < R256 := by have := Hg1.out; omega
        have hg2 : g2 < R256 := by have := Hg2.out; omega
        have hfiR : fi < R256 := Nat.lt_trans fi_lt hppR
        have Hfi : Hid (2 ^ g2 % pp = fi) := by
          show _ = _
          rw [fi_pow]
          have : (pp - 1) / 4 = g2 := by have h0 := Hg0.out; have h1 := Hg1.out; have h2 := Hg2.out; omega
          rw [this]
        obtain ⟨x, Hx⟩ : ∃ x, Hid (r * fi % pp = x) := ⟨_, rfl⟩
        have hx : x < pp := by rw [← Hx.out]; exact Nat.mod_lt _ pp_pos
        have hxR : x < R256 := Nat.lt_trans hx hppR
        obtain ⟨z, Hz⟩ : ∃ z, Hid (x * x % pp = z) := ⟨_, rfl⟩
        have hzR : z < R256 := by rw [← Hz.out]; exact lt_of_mod
        have heq2 := num_eq z m hzR hm
        have Hyes : z = m → Hid (rootV a = .tuple #[.agg (numA (evenOf x)), .bool true]) := fun h => rootV_second Hra.out Hy.out Hm.out Hym.out Hx.out Hz.out h
        have Hno : ¬ z = m → Hid (rootV a = .tuple #[.agg (numA 0), .bool false]) := fun h => rootV_none Hra.out Hy.out Hm.out Hym.out Hx.out Hz.out h
        clear heq
        go_wp2_with fail
        refine (P_any wp).mono ?_
        rintro e w6 ⟨rfl, hB6⟩
        have hK6 := hKp.below hB6
        go_wp2_with fail
        rw [show (#[.int .u64 1, .int .u64 0, .int .u64 0, .int .u64 0] : Array Value) = numA 1 from (numA_word 1 (by decide)).symm]
        refine (sub_big hppR (by decide) Hg0.out w6).mono ?_
        rintro e w7 ⟨rfl, hB7⟩
        have hK7 := hK6.below hB7
        have hK8 := hK7.alloc (numA g0) 54
        have ne7 := fun p hp => Nat.ne_of_lt (hK7.1 p hp).lt
        go_upto_region 6 with (refine wpList_store_new (by rfl) 54 (.tmp 7) (.tmp 32) (by rfl) _ (numA g0) (by rfl) (by rfl) (numA_info g0) (lit4_size _ _ _ _ _) (numA_one g0) (by rfl) ?_)
        generalize w7.alloc (.cells (numA g0) 54) = W8 at *
        generalize w7.heap.size = b7 at *
        have n3 : b6 ≠ b7 := ne7 (b6, numA r, 54) (by simp)
        have hK9 : Kp [(b6, numA r, 54), (b7, numA g0, 54), (bR, numA 0, 54), (bA, numA m, 54)] w W8 := hK8.sub (by simp)
        clear hK6 hK7 hK8 ne7
        refine wp_region_lv 55 (fun L => [(b6, if L 7 = true then numA x else numA r, 54), (b7, numA g0, 54), (bR, numA 0, 54), (bA, numA m, 54)]) [.v (.agg (numA r)), .v (.agg (numA 2)), .v (.agg (numA g0)), .v (.agg (numA g1)), .v (.agg (numA g2)), .v (.agg (numA fi)), .v (.agg (numA x)), .o] hK9 (by kernel_rfl) (by kernel_rfl) (by kernel_rfl) (by rfl) ?_ ?_
        · exact .c (.lq b6 7 false (fun L h => by rw [h]; exact .head _) Tryz.underlying54 rfl (numA_info r)) <| .c (.p0 (h := by intro ac wc; go_simp; rw [numA_word 2 (by decide)]; rfl)) <| .c (.ld b7 (fun _ => .tail _ (.head _)) Tryz.underlying54 rfl (numA_info g0)) <| .c (.ca fun _ _ _ => half_at hg0 Hg1.out _) <| .c (.ca fun _ _ _ => half_at hg1 Hg2.out _) <| .c (.ca fun _ _ _ => pow_at (by decide) hg2 Hfi.out _) <| .c (.ca fun _ _ _ => mul_at hrR hfiR Hx.out _) <| .c (.sk b6 (.hr (fun _ => rfl) (fun _ => rfl) (fun _ => by simp; omega)) hle6 (numA_info x) (numA_one x)) .nil
        · intro _ wa hJ _
          have hKa : Kp [(b6, numA x, 54), (b7, numA g0, 54), (bR, numA 0, 54), (bA, numA m, 54)] w wa := hJ.1
          have hKa : Kp [(b6, numA x, 54), (bR, numA 0, 54), (bA, numA m, 54)] w wa := Kp.sub hKa (by simp)
          simp only [putL, Lv.val, Act.put, List.setIfInBounds_toArray, List.set_cons_succ, List.set_cons_zero]
          go_upto_region 7 with fail
          refine wp_region_lv 55 (fun _ => [(b6, numA x, 54), (bR, numA 0, 54), (bA, numA m, 54)]) [.v (.agg (numA x)), .v (.agg (numA x)), .v (.agg (numA z)), .v (.agg (numA m)), .v (.bool (!decide (z = m)))] hKa (by kernel_rfl) (by kernel_rfl) (by kernel_rfl) (by rfl) ?_ ?_
          · exact .c (.ld b6 (fun _ => .head _) Tryz.underlying54 rfl (numA_info x)) <| .c (.ld b6 (fun _ => .head _) Tryz.underlying54 rfl (numA_info x)) <| .c (.ca fun _ _ _ => mul_at hxR hxR Hz.out _) <| .c (.ld bA (fun _ => .tail _ (.tail _ (.head _))) Tryz.underlying54 rfl (numA_info m)) <| .c (.p2 43 (.agg (numA z)) 44 (.agg (numA m))) .nil
          · intro _ wz hJ _
            have hKz := hJ.1
            simp only [putL, Lv.val, Act.put, List.setIfInBounds_toArray, List.set_cons_succ, List.set_cons_zero]
            by_cases hym : z = m
            · have Hres := Hyes hym
              have Hym := show Hid _ from hym
              clear hym
              rw [show (!decide (z = m)) = false from by rw [decide_eq_true Hym.out]; rfl]
              have cX := (hKz.at b6 (numA x) 54 (by simp)).cell (numA_at x 0 (by omega))
              have hodd := odd_word x
              have hx2 : x % 2 = 0 ∨ x % 2 = 1 := by omega
              rcases hx2 with hx2 | hx2
              · rw [hx2] at hodd
                have Hev : Hid (evenOf x = x) := by show _ = _; unfold evenOf; rw [if_neg (by omega)]
                generalize dig x 0 = d0 at *
                go_upto_region 11 with fail
                go_wp2_with (first
                  | refine wpList_load_own (by rfl) 54 (.tmp 6) (by rfl) b6 (by rfl) (numA x) _ (hKz.at b6 (numA x) 54 (by simp)) Tryz.underlying54 (by rfl) (numA_info x) ?_
                  | refine wpList_store_own (by rfl) 54 (.tmp 2) (.tmp 54) (by rfl) bR 0 (numA x) (by rfl) (by rfl) (hKz.at bR (numA 0) 54 (by simp)) (Nat.le_refl _) (numA_info x) (numA_one x) (by rfl) ?_)
                refine bodyPost_ret (results_own_tmp Tryz.results69 _ _ bR (numA x) _ (by rfl) (own_setCells (hKz.at bR (numA 0) 54 (by simp)) (numA_sizes x 0)) Tryz.underlying54 rfl (numA_info x)) rfl ⟨?_, Below.setCells _ _ _ _ hle hKz.2⟩
                rw [Hres.out, Hev.out]; rfl
              · rw [hx2] at hodd
                have Hev : Hid (evenOf x = pp - x) := by show _ = _; unfold evenOf; rw [if_pos hx2]
                generalize dig x 0 = d0 at *
                go_upto_region 10 with fail
                go_wp2_with (refine wpList_load_own (by rfl) 54 (.tmp 6) (by rfl) b6 (by rfl) (numA x) _ (hKz.at b6 (numA x) 54 (by simp)) Tryz.underlying54 (by rfl) (numA_info x) ?_)
                rw [show (#[.int .u64 0, .int .u64 0, .int .u64 0, .int .u64 0] : Array Value) = numA 0 from rfl]
                refine (fsub_any 0 x (by decide) hxR wz).mono ?_
                rintro e w5 ⟨rfl, hB5⟩
                have hK5 := hKz.below hB5
                obtain ⟨z, Hz⟩ : ∃ z, Hid (pp - x = z) := ⟨_, rfl⟩
                rw [show (0 % pp + pp - x % pp) % pp = z from by rw [← Hz.out]; exact neg_of x hx hx2]
                have hK6 := hK5.set (A' := numA z) (by simp; omega) hle6 (numA_sizes z x)
                go_upto_region 11 with (refine wpList_store_own (by rfl) 54 (.tmp 6) (.tmp 53) (by rfl) b6 0 (numA z) (by rfl) (by rfl) (hK5.at b6 (numA x) 54 (by simp)) (Nat.le_refl _) (numA_info z) (numA_one z) (by rfl) ?_)
                generalize w5.setCells b6 0 (numA z).toList = W6 at *
                go_wp2_with (first
                  | refine wpList_load_own (by rfl) 54 (.tmp 6) (by rfl) b6 (by rfl) (numA z) _ (hK6.at b6 (numA z) 54 (by simp)) Tryz.underlying54 (by rfl) (numA_info z) ?_
                  | refine wpList_store_own (by rfl) 54 (.tmp 2) (.tmp 54) (by rfl) bR 0 (numA z) (by rfl) (by rfl) (hK6.at bR (numA 0) 54 (by simp)) (Nat.le_refl _) (numA_info z) (numA_one z) (by rfl) ?_)
                refine bodyPost_ret (results_own_tmp Tryz.results69 _ _ bR (numA z) _ (by rfl) (own_setCells (hK6.at bR (numA 0) 54 (by simp)) (numA_sizes z 0)) Tryz.underlying54 rfl (numA_info z)) rfl ⟨?_, Below.setCells _ _ _ _ hle hK6.2⟩
                rw [Hres.out, Hev.out, Hz.out]; rfl
            · have Hres := Hno hym
              have Hym := show Hid (¬ z = m) from hym
              clear hym
              rw [show (!decide (z = m)) = true from by rw [decide_eq_false Hym.out]; rfl]
              go_upto_region 8 with fail
              go_wp2_with (refine wpList_store_own (by rfl) 54 (.tmp 2) (.tmp 46) (by rfl) bR 0 (numA 0) (by rfl) (by rfl) (hKz.at bR (numA 0) 54 (by simp)) (Nat.le_refl _) (numA_info 0) (numA_one 0) (by rfl) ?_)
              refine bodyPost_ret (results_own_tmp Tryz.results69 _ _ bR (numA 0) _ (by rfl) (own_setCells (hKz.at bR (numA 0) 54 (by simp)) (numA_sizes 0 0)) Tryz.underlying54 rfl (numA_info 0)) rfl ⟨?_, Below.setCells _ _ _ _ hle hKz.2⟩
              rw [Hres.out]; rfl
end Go.Proofs.YtgibllaifnnfkaaGreatDoor
