/- The walks of the page's powers and inverses. -/
import Derived.Test.YtfkcphbbabaefaaDoorE8
namespace Go.Proofs.YtfkcphbbabaefaaDoor
open Go.RowKit
theorem pow_step0 {a e i n : Nat} (hn : n = a ^ (e / 2 ^ (i + 1)) % pp) (hb : e / 2 ^ i % 2 = 0) : n * n % pp = a ^ (e / 2 ^ i) % pp := by
  have h : e / 2 ^ i = e / 2 ^ (i + 1) * 2 := by
    have : e / 2 ^ (i + 1) = e / 2 ^ i / 2 := by rw [Nat.pow_succ, Nat.div_div_eq_div_mul]
    omega
  rw [h, Nat.pow_mul, Nat.pow_two, hn, ← Nat.mul_mod]
theorem pow_step1 {a e i n : Nat} (hn : n = a ^ (e / 2 ^ (i + 1)) % pp) (hb : e / 2 ^ i % 2 = 1) : n * n % pp * a % pp = a ^ (e / 2 ^ i) % pp := by
  have h : e / 2 ^ i = e / 2 ^ (i + 1) * 2 + 1 := by
    have : e / 2 ^ (i + 1) = e / 2 ^ i / 2 := by rw [Nat.pow_succ, Nat.div_div_eq_div_mul]
    omega
  rw [h, Nat.pow_succ, Nat.pow_mul, Nat.pow_two, hn]
  generalize a ^ (e / 2 ^ (i + 1)) = x
  rw [← Nat.mul_mod, Nat.mod_mul_mod]
theorem pow_start (a e : Nat) (he : e < R256) : 1 = a ^ (e / 2 ^ 256) % pp := by
  rw [Nat.div_eq_of_lt (show e < 2 ^ 256 from he), Nat.pow_zero, one_mod]

set_option maxRecDepth 100000 in
set_option maxHeartbeats 8000000 in
theorem pow_any (a e : Nat) (ha : a < R256) (he : e < R256) (w : World) : Calls Tryd.prog 76 #[.agg (numA a), .agg (numA e)] w fun x w' => x = .returned (.agg (numA (a ^ e % pp))) ∧ Below w.heap.size w w' := by
  obtain ⟨r, Hr⟩ : ∃ r, Hid (a ^ e % pp = r) := ⟨_, rfl⟩
  rw [Hr.out]
  have hz := (zero_of_info zeroLit).1
  go_enter Tryd.func76, Tryd.ntmps76
  go_upto_region 1 with fail
  have hK0 := (((Kp.nil w).alloc (numA a) 35).alloc (numA e) 35).alloc (numA 0) 35
  rw [World.size_alloc, World.size_alloc] at hK0
  rw [show (#[.int .u64 0, .int .u64 0, .int .u64 0, .int .u64 0] : Array Value) = numA 0 from rfl]
  generalize ((w.alloc (.cells (numA a) 35)).alloc (.cells (numA e) 35)).alloc (.cells (numA 0) 35) = W at *
  obtain ⟨bA, HA⟩ : ∃ bA, Hid (w.heap.size = bA) := ⟨_, rfl⟩
  obtain ⟨bE, HE⟩ : ∃ bE, Hid (bA + 1 = bE) := ⟨_, rfl⟩
  obtain ⟨bR, HR⟩ : ∃ bR, Hid (bE + 1 = bR) := ⟨_, rfl⟩
  have hle : w.heap.size ≤ bR := by have := HA.out; have := HE.out; have := HR.out; omega
  rw [HA.out, HE.out, HR.out] at hK0 ⊢
  have hK1 := hK0.alloc (numA 1) 35
  have ne1 := fun p hp => Nat.ne_of_lt (hK0.1 p hp).lt
  have hle5 := hK0.2.size
  go_upto_region 2 with (refine wpList_store_new (by rfl) 35 (.tmp 5) (.tmp 7) (by rfl) _ (numA 1) (by rfl) (by rw [numA_word 1 (by decide)]; rfl) (numA_info 1) (lit4_size _ _ _ _ _) (numA_one 1) (by rfl) ?_)
  generalize W.alloc (.cells (numA 1) 35) = W1 at *
  generalize W.heap.size = b5 at *
  have m1 : bR ≠ b5 := ne1 (bR, numA 0, 35) (by simp)
  have m2 : bE ≠ b5 := ne1 (bE, numA e, 35) (by simp)
  have m3 : bA ≠ b5 := ne1 (bA, numA a, 35) (by simp)
  clear ne1 hK0
  go_wp2_with fail
  go_loopw [6] (fun ii wr => ∃ (j n : Nat), j ≤ 256 ∧ ii = .int .i64 ((j : Int) - 1) ∧ n < R256 ∧ Hid (n = a ^ (e / 2 ^ j) % pp) ∧ Kp [(b5, numA n, 35), (bR, numA 0, 35), (bE, numA e, 35), (bA, numA a, 35)] w wr) (fun ii _ => (intOf ii + 1).toNat)
  case atStart => exact ⟨256, 1, by omega, rfl, by decide, pow_start a e he, hK1⟩
  case round =>
    obtain ⟨j, n, hj, rfl, hn, Hn, hKr⟩ := hrel
    cases j with
    | zero =>
      rw [show (((0 : Nat) : Int) - 1) = -1 from rfl]
      have Hend : Hid (n = r) := by
        show _ = _
        rw [Hn.out, Nat.pow_zero, Nat.div_one, Hr.out]
      go_upto_region 8 with fail
      go_wp2_with (first
        | refine wpList_load_own (by rfl) 35 (.tmp 5) (by rfl) b5 (by rfl) (numA n) _ (hKr.at b5 (numA n) 35 (by simp)) Tryd.underlying35 (by rfl) (numA_info n) ?_
        | refine wpList_store_own (by rfl) 35 (.tmp 4) (.tmp 28) (by rfl) bR 0 (numA n) (by rfl) (by rfl) (hKr.at bR (numA 0) 35 (by simp)) (Nat.le_refl _) (numA_info n) (numA_one n) (by rfl) ?_)
      refine bodyPost_ret (results_own Tryd.results76 _ _ bR (numA n) _ (by rfl) (own_setCells (hKr.at bR (numA 0) 35 (by simp)) (numA_sizes n 0)) Tryd.underlying35 rfl (numA_info n)) rfl ⟨by rw [Hend.out], ?_⟩
      exact Below.setCells _ _ _ _ hle hKr.2
    | succ i =>
      rw [show (((i + 1 : Nat) : Int) - 1) = (i : Int) by omega]
      have hi0 : (0 : Int) ≤ (i : Int) := by omega
      have hi1 : (i : Int) < 256 := by omega
      go_upto_region 5 with fail
      go_wp2_with (refine wpList_load_own (by rfl) 35 (.tmp 5) (by rfl) b5 (by rfl) (numA n) _ (hKr.at b5 (numA n) 35 (by simp)) Tryd.underlying35 (by rfl) (numA_info n) ?_)
      refine (fmul_any n n hn hn wr).mono ?_
      rintro x w1 ⟨rfl, hB1⟩
      have hK2 := hKr.below hB1
      obtain ⟨q, Hq⟩ : ∃ q, Hid (n * n % pp = q) := ⟨_, rfl⟩
      have hq : q < R256 := by rw [← Hq.out]; exact lt_of_mod
      rw [Hq.out]
      have hK3 := hK2.set (A' := numA q) (by simp; omega) hle5 (numA_sizes q n)
      go_upto_region 6 with (refine wpList_store_own (by rfl) 35 (.tmp 5) (.tmp 14) (by rfl) b5 0 (numA q) (by rfl) (by rfl) (hK2.at b5 (numA n) 35 (by simp)) (Nat.le_refl _) (numA_info q) (numA_one q) (by rfl) ?_)
      generalize w1.setCells b5 0 (numA q).toList = W2 at *
      clear hK2 hB1
      have hdv : (i : Int).tdiv 64 = ((i / 64 : Nat) : Int) := by rw [Int.tdiv_eq_ediv_of_nonneg (by omega)]; omega
      have hmd : (i : Int).tmod 64 = ((i % 64 : Nat) : Int) := by rw [Int.tmod_eq_emod_of_nonneg (by omega)]; omega
      have hd4 : i / 64 < 4 := by omega
      have cE := (hK3.at bE (numA e) 35 (by simp)).cell (numA_at e (i / 64) hd4)
      have hbit := bit_u64 e i
      have hd40 : (0 : Int) ≤ ((i / 64 : Nat) : Int) := by omega
      have hd41 : ((i / 64 : Nat) : Int) < 4 := by omega
      have hm0 : (0 : Int) ≤ ((i % 64 : Nat) : Int) := by omega
      have hm1 : ((i % 64 : Nat) : Int) < 64 := by omega
      generalize dig e (i / 64) = d at *
      generalize i / 64 = D at *
      generalize i % 64 = M at *
      have hb2 : e / 2 ^ i % 2 = 0 ∨ e / 2 ^ i % 2 = 1 := by omega
      rcases hb2 with hb | hb
      · have Hst := show Hid _ from pow_step0 Hn.out hb
        rw [hb] at hbit
        clear hb
        go_wp2_with fail
        exact ⟨⟨i, q, by omega, rfl, hq, by show _ = _; rw [← Hq.out]; exact Hst.out, hK3⟩, by simp [intOf]⟩
      · have Hst := show Hid _ from pow_step1 Hn.out hb
        rw [hb] at hbit
        clear hb
        go_upto_region 7 with fail
        go_wp2_with (first
          | refine wpList_load_own (by rfl) 35 (.tmp 5) (by rfl) b5 (by rfl) (numA q) _ (hK3.at b5 (numA q) 35 (by simp)) Tryd.underlying35 (by rfl) (numA_info q) ?_
          | refine wpList_load_own (by rfl) 35 (.tmp 2) (by rfl) bA (by rfl) (numA a) _ (hK3.at bA (numA a) 35 (by simp)) Tryd.underlying35 (by rfl) (numA_info a) ?_)
        refine (fmul_any q a hq ha W2).mono ?_
        rintro x w3 ⟨rfl, hB3⟩
        have hK4 := hK3.below hB3
        obtain ⟨q2, Hq2⟩ : ∃ q2, Hid (q * a % pp = q2) := ⟨_, rfl⟩
        have hq2 : q2 < R256 := by rw [← Hq2.out]; exact lt_of_mod
        rw [Hq2.out]
        have hK5 := hK4.set (A' := numA q2) (by simp; omega) hle5 (numA_sizes q2 q)
        go_wp2_with (refine wpList_store_own (by rfl) 35 (.tmp 5) (.tmp 27) (by rfl) b5 0 (numA q2) (by rfl) (by rfl) (hK4.at b5 (numA q) 35 (by simp)) (Nat.le_refl _) (numA_info q2) (numA_one q2) (by rfl) ?_)
        exact ⟨⟨i, q2, by omega, rfl, hq2, by show _ = _; rw [← Hq2.out, ← Hq.out]; exact Hst.out, hK5⟩, by simp [intOf]⟩

set_option maxRecDepth 100000 in
set_option maxHeartbeats 4000000 in
theorem inv_any (a : Nat) (ha : a < R256) (w : World) : Calls Tryd.prog 48 #[.agg (numA a)] w fun x w' => x = .returned (.agg (numA (finv a))) ∧ Below w.heap.size w w' := by
  obtain ⟨r, Hr⟩ : ∃ r, Hid (finv a = r) := ⟨_, rfl⟩
  rw [Hr.out]
  obtain ⟨e, He⟩ : ∃ e, Hid (pp = e + 2) := ⟨pp - 2, by show _ = _; exact (Nat.sub_add_cancel (by decide)).symm⟩
  have he : e < R256 := by have h1 := He.out; have h2 : pp < R256 := by decide
                           omega
  have Hend : Hid (a ^ e % pp = r) := by
    show _ = _
    rw [← Hr.out, finv, show pp - 2 = e from by rw [He.out]; exact Nat.add_sub_cancel e 2]
  have hz := (zero_of_info zeroLit).1
  go_enter Tryd.func48, Tryd.ntmps48
  go_upto_region 1 with fail
  have hK0 := ((Kp.nil w).alloc (numA a) 35).alloc (numA 0) 35
  rw [World.size_alloc] at hK0
  rw [show (#[.int .u64 0, .int .u64 0, .int .u64 0, .int .u64 0] : Array Value) = numA 0 from rfl]
  generalize (w.alloc (.cells (numA a) 35)).alloc (.cells (numA 0) 35) = W at *
  obtain ⟨bA, HA⟩ : ∃ bA, Hid (w.heap.size = bA) := ⟨_, rfl⟩
  obtain ⟨bR, HR⟩ : ∃ bR, Hid (bA + 1 = bR) := ⟨_, rfl⟩
  have hle : w.heap.size ≤ bR := by have := HA.out; have := HR.out; omega
  rw [HA.out, HR.out] at hK0 ⊢
  go_wp2_with fail
  refine (P_any W).mono ?_
  rintro x w1 ⟨rfl, hB1⟩
  have hK1 := hK0.below hB1
  go_wp2_with fail
  rw [show (#[.int .u64 2, .int .u64 0, .int .u64 0, .int .u64 0] : Array Value) = numA 2 from (numA_word 2 (by decide)).symm]
  refine (sub_big (by decide) (by decide) He.out w1).mono ?_
  rintro x w2 ⟨rfl, hB2⟩
  have hK2 := hK1.below hB2
  have hK3 := hK2.alloc (numA e) 35
  go_upto_region 2 with (refine wpList_store_new (by rfl) 35 (.tmp 3) (.tmp 9) (by rfl) _ (numA e) (by rfl) (by rfl) (numA_info e) (lit4_size _ _ _ _ _) (numA_one e) (by rfl) ?_)
  generalize w2.alloc (.cells (numA e) 35) = W3 at *
  generalize w2.heap.size = b3 at *
  clear hK0 hK1 hK2
  go_wp2_with (first
    | refine wpList_load_own (by rfl) 35 (.tmp 1) (by rfl) bA (by rfl) (numA a) _ (hK3.at bA (numA a) 35 (by simp)) Tryd.underlying35 (by rfl) (numA_info a) ?_
    | refine wpList_load_own (by rfl) 35 (.tmp 3) (by rfl) b3 (by rfl) (numA e) _ (hK3.at b3 (numA e) 35 (by simp)) Tryd.underlying35 (by rfl) (numA_info e) ?_)
  refine (pow_any a e ha he W3).mono ?_
  rintro x w4 ⟨rfl, hB4⟩
  have hK4 := hK3.below hB4
  rw [Hend.out]
  go_wp2_with (refine wpList_store_own (by rfl) 35 (.tmp 2) (.tmp 13) (by rfl) bR 0 (numA r) (by rfl) (by rfl) (hK4.at bR (numA 0) 35 (by simp)) (Nat.le_refl _) (numA_info r) (numA_one r) (by rfl) ?_)
  refine bodyPost_ret (results_own Tryd.results48 _ _ bR (numA r) _ (by rfl) (own_setCells (hK4.at bR (numA 0) 35 (by simp)) (numA_sizes r 0)) Tryd.underlying35 rfl (numA_info r)) rfl ⟨rfl, ?_⟩
  exact Below.setCells _ _ _ _ hle hK4.2
end Go.Proofs.YtfkcphbbabaefaaDoor
