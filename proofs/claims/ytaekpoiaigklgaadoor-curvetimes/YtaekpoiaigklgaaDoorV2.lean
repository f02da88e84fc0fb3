/- The walk of the page's multiple. -/
import Derived.Test.YtaekpoiaigklgaaDoorV1B
namespace Go.Proofs.YtaekpoiaigklgaaDoor
open Go Go.RowKit
/-- Four numbers below 2^256. -/
structure N4.ok (r : N4) : Prop where
  x : r.X < R256
  y : r.Y < R256
  z : r.Z < R256
  t : r.T < R256
theorem plus4_ok (p q : N4) : (plus4 p q).ok := ⟨lt_of_mod, lt_of_mod, lt_of_mod, lt_of_mod⟩
theorem zero4_ok : zero4.ok := ⟨by decide, by decide, by decide, by decide⟩
theorem dd_R : dd < R256 := Nat.lt_trans dd_lt (by decide)
theorem plus_any (p q : N4) (hp : p.ok) (hq : q.ok) (w : World) :
    Calls Tryd.prog 38 #[.agg (PA p), .agg (PA q), .agg (numA dd)] w fun x w' => x = .returned (.agg (PA (plus4 p q))) ∧ Below w.heap.size w w' :=
  plus_nat hp.x hp.y hp.z hp.t hq.x hq.y hq.z hq.t dd_R rfl w
theorem mul4_bit0 {p o : N4} {n i : Nat} (hi : i < 256) (ho : o = mul4 p (256 - (i + 1)) (n / 2 ^ (i + 1))) (hb : n / 2 ^ i % 2 = 0) : plus4 o o = mul4 p (256 - i) (n / 2 ^ i) := by
  rw [show 256 - i = 256 - (i + 1) + 1 by omega, mul4, if_neg (by omega), Nat.div_div_eq_div_mul, ← Nat.pow_succ, ← ho]
theorem mul4_bit1 {p o : N4} {n i : Nat} (hi : i < 256) (ho : o = mul4 p (256 - (i + 1)) (n / 2 ^ (i + 1))) (hb : n / 2 ^ i % 2 = 1) : plus4 (plus4 o o) p = mul4 p (256 - i) (n / 2 ^ i) := by
  rw [show 256 - i = 256 - (i + 1) + 1 by omega, mul4, if_pos hb, Nat.div_div_eq_div_mul, ← Nat.pow_succ, ← ho]
theorem mul4_from (p : N4) (n : Nat) : zero4 = mul4 p (256 - 256) (n / 2 ^ 256) := by rw [Nat.sub_self, mul4]
set_option maxRecDepth 100000 in
set_option maxHeartbeats 2000000 in
theorem multiple_any (n : Nat) (hn : n < R256) (p : N4) (hp : p.ok) (w : World) : Calls Tryd.prog 41 #[.agg (numA n), .agg (PA p)] w fun x w' => x = .returned (.agg (PA (mul4 p 256 n))) ∧ Below w.heap.size w w' := by
  obtain ⟨r, Hr⟩ : ∃ r, Hid (mul4 p 256 n = r) := ⟨_, rfl⟩
  have Hp := show Hid _ from hp
  have Hn := show Hid _ from hn
  clear hp hn
  rw [Hr.out]
  have hz := (zero_of_info zeroLit).1
  have hzP := (zero_of_info zeroPA).1
  go_enter Tryd.func41, Tryd.ntmps41
  go_upto_region 1 with fail
  have hK := (((Kp.nil w).alloc (numA n) 25).alloc (PA p) 27).alloc (PA ⟨0, 0, 0, 0⟩) 27
  rw [World.size_alloc, World.size_alloc] at hK
  generalize ((w.alloc (.cells (numA n) 25)).alloc (.cells (PA p) 27)).alloc (.cells (PA ⟨0, 0, 0, 0⟩) 27) = W at *
  obtain ⟨bN, HN⟩ : ∃ b, Hid (w.heap.size = b) := ⟨_, rfl⟩
  obtain ⟨bP, HP⟩ : ∃ b, Hid (bN + 1 = b) := ⟨_, rfl⟩
  obtain ⟨bR, HR⟩ : ∃ b, Hid (bP + 1 = b) := ⟨_, rfl⟩
  have le_bR : Hid (w.heap.size ≤ bR) := by show _ ≤ _; have := HN.out; have := HP.out; have := HR.out; omega
  rw [HN.out, HP.out, HR.out] at hK ⊢
  go_wp2_with fail
  refine (d_any _).mono ?_
  rintro x w1 ⟨rfl, b1⟩
  have hK := hK.below b1
  go_upto_region 2 with (refine wpList_store_new (by rfl) 25 (.tmp 5) (.tmp 8) (by rfl) _ (numA dd) (by rfl) (by rfl) (numA_info _) (lit4_size _ _ _ _ _) (numA_one _) (by rfl) ?_)
  have hK := hK.alloc (numA dd) 25
  generalize w1.alloc (.cells (numA dd) 25) = W1 at *
  obtain ⟨bK, HB⟩ : ∃ b, Hid (w1.heap.size = b) := ⟨_, rfl⟩
  rw [HB.out] at hK ⊢
  go_wp2_with fail
  refine (zero_any _).mono ?_
  rintro x w2 ⟨rfl, b2⟩
  have hK := hK.below b2
  have ne1 := show Hid _ from fun z hz => Nat.ne_of_lt (hK.1 z hz).lt
  have leO := show Hid _ from hK.2.size
  go_upto_region 3 with (refine wpList_store_new (by rfl) 27 (.tmp 6) (.tmp 9) (by rfl) _ (PA zero4) (by rfl) (by rfl) (PA_info _) (PA_sizes _ _) (PA_one _) (by rfl) ?_)
  have hK := hK.alloc (PA zero4) 27
  generalize w2.alloc (.cells (PA zero4) 27) = W2 at *
  obtain ⟨bO, HO⟩ : ∃ b, Hid (w2.heap.size = b) := ⟨_, rfl⟩
  have leO : Hid (w.heap.size ≤ bO) := by show _ ≤ _; rw [← HO.out]; exact leO.out
  have nots : Hid (∀ z ∈ [(bK, numA dd, 25), (bR, PA ⟨0, 0, 0, 0⟩, 27), (bP, PA p, 27), (bN, numA n, 25)], z.1 ≠ bO) := by
    show ∀ _, _
    rw [← HO.out]; exact ne1.out
  rw [HO.out] at hK ⊢
  clear ne1 b1 b2
  go_wp2_with fail
  go_loopw [7] (fun ii wr => ∃ (j : Nat) (o : N4), j ≤ 256 ∧ ii = .int .i64 ((j : Int) - 1) ∧ Hid o.ok ∧ Hid (o = mul4 p (256 - j) (n / 2 ^ j)) ∧ Kp [(bO, PA o, 27), (bK, numA dd, 25), (bR, PA ⟨0, 0, 0, 0⟩, 27), (bP, PA p, 27), (bN, numA n, 25)] w wr) (fun ii _ => (intOf ii + 1).toNat)
  case atStart => exact ⟨256, zero4, by omega, rfl, zero4_ok, mul4_from p n, hK⟩
  case round =>
    obtain ⟨j, o, hj, rfl, ho, Ho, hKr⟩ := hrel
    cases j with
    | zero =>
      rw [show (((0 : Nat) : Int) - 1) = -1 from rfl]
      have Hend : Hid (o = r) := by
        show _ = _
        rw [Ho.out, Nat.pow_zero, Nat.div_one, ← Hr.out]
      go_upto_region 9 with fail
      go_wp2_with (first
        | refine wpList_load_own (by rfl) 27 (.tmp 6) (by rfl) bO (by rfl) (PA o) _ (hKr.at bO (PA o) 27 (.head _)) Tryd.underlying27 (by rfl) (PA_info _) ?_
        | refine wpList_store_own (by rfl) 27 (.tmp 4) (.tmp 32) (by rfl) bR 0 (PA o) (by rfl) (by rfl) (hKr.at bR (PA ⟨0, 0, 0, 0⟩) 27 (.tail _ (.tail _ (.head _)))) (Nat.le_refl _) (PA_info _) (PA_one _) (by rfl) ?_)
      refine bodyPost_ret (results_own Tryd.results41 _ _ bR (PA o) _ (by rfl) (own_setCells (hKr.at bR (PA ⟨0, 0, 0, 0⟩) 27 (.tail _ (.tail _ (.head _)))) (PA_sizes _ _)) Tryd.underlying27 rfl (PA_info _)) rfl ⟨by rw [Hend.out], ?_⟩
      exact Below.setCells _ _ _ _ le_bR.out hKr.2
    | succ i =>
      rw [show (((i + 1 : Nat) : Int) - 1) = (i : Int) by omega]
      have hi0 : (0 : Int) ≤ (i : Int) := by omega
      have hi1 : (i : Int) < 256 := by omega
      have hi2 : Hid (i < 256) := by show _ < _; omega
      go_upto_region 6 with fail
      go_wp2_with (first
        | refine wpList_load_own (by rfl) 27 (.tmp 6) (by rfl) bO (by rfl) (PA o) _ (hKr.at bO (PA o) 27 (.head _)) Tryd.underlying27 (by rfl) (PA_info _) ?_
        | refine wpList_load_own (by rfl) 25 (.tmp 5) (by rfl) bK (by rfl) (numA dd) _ (hKr.at bK (numA dd) 25 (.tail _ (.head _))) Tryd.underlying25 (by rfl) (numA_info _) ?_)
      refine (plus_any o o ho.out ho.out wr).mono ?_
      rintro x w1 ⟨rfl, hB1⟩
      have hK2 := hKr.below hB1
      obtain ⟨q, Hq⟩ : ∃ q, Hid (plus4 o o = q) := ⟨_, rfl⟩
      have hq : Hid q.ok := by show q.ok; rw [← Hq.out]; exact plus4_ok _ _
      rw [Hq.out]
      have hK3 := hK2.set (A' := PA q) nots.out leO.out (PA_sizes q o)
      go_upto_region 7 with (refine wpList_store_own (by rfl) 27 (.tmp 6) (.tmp 17) (by rfl) bO 0 (PA q) (by rfl) (by rfl) (hK2.at bO (PA o) 27 (.head _)) (Nat.le_refl _) (PA_info _) (PA_one _) (by rfl) ?_)
      generalize w1.setCells bO 0 (PA q).toList = W3 at *
      clear hK2 hB1 hKr hK
      have hdv : (i : Int).tdiv 64 = ((i / 64 : Nat) : Int) := by rw [Int.tdiv_eq_ediv_of_nonneg (by omega)]; omega
      have hmd : (i : Int).tmod 64 = ((i % 64 : Nat) : Int) := by rw [Int.tmod_eq_emod_of_nonneg (by omega)]; omega
      have hd4 : i / 64 < 4 := by omega
      have cE := (hK3.at bN (numA n) 25 (.tail _ (.tail _ (.tail _ (.tail _ (.head _)))))).cell (numA_at n (i / 64) hd4)
      have hbit := bit_u64 n i
      have hd40 : (0 : Int) ≤ ((i / 64 : Nat) : Int) := by omega
      have hd41 : ((i / 64 : Nat) : Int) < 4 := by omega
      have hm0 : (0 : Int) ≤ ((i % 64 : Nat) : Int) := by omega
      have hm1 : ((i % 64 : Nat) : Int) < 64 := by omega
      generalize dig n (i / 64) = d at *
      generalize i / 64 = D at *
      generalize i % 64 = M at *
      have hb2 : n / 2 ^ i % 2 = 0 ∨ n / 2 ^ i % 2 = 1 := by omega
      rcases hb2 with hb | hb
      · have Hst := show Hid _ from mul4_bit0 hi2.out Ho.out hb
        rw [hb] at hbit
        clear hb
        go_wp2_with fail
        exact ⟨⟨i, q, by omega, rfl, hq, by show _ = _; rw [← Hq.out]; exact Hst.out, hK3⟩, by simp [intOf]⟩
      · have Hst := show Hid _ from mul4_bit1 hi2.out Ho.out hb
        rw [hb] at hbit
        clear hb
        go_upto_region 8 with fail
        clear hbit cE hdv hmd
        go_wp2_with (first
          | refine wpList_load_own (by rfl) 27 (.tmp 6) (by rfl) bO (by rfl) (PA q) _ (hK3.at bO (PA q) 27 (.head _)) Tryd.underlying27 (by rfl) (PA_info _) ?_
          | refine wpList_load_own (by rfl) 27 (.tmp 3) (by rfl) bP (by rfl) (PA p) _ (hK3.at bP (PA p) 27 (.tail _ (.tail _ (.tail _ (.head _))))) Tryd.underlying27 (by rfl) (PA_info _) ?_
          | refine wpList_load_own (by rfl) 25 (.tmp 5) (by rfl) bK (by rfl) (numA dd) _ (hK3.at bK (numA dd) 25 (.tail _ (.head _))) Tryd.underlying25 (by rfl) (numA_info _) ?_)
        refine (plus_any q p hq.out Hp.out W3).mono ?_
        rintro x w3 ⟨rfl, hB3⟩
        have hK4 := hK3.below hB3
        obtain ⟨q2, Hq2⟩ : ∃ q2, Hid (plus4 q p = q2) := ⟨_, rfl⟩
        have hq2 : Hid q2.ok := by show q2.ok; rw [← Hq2.out]; exact plus4_ok _ _
        rw [Hq2.out]
        have hK5 := hK4.set (A' := PA q2) nots.out leO.out (PA_sizes q2 q)
        go_upto_region 5 with (refine wpList_store_own (by rfl) 27 (.tmp 6) (.tmp 31) (by rfl) bO 0 (PA q2) (by rfl) (by rfl) (hK4.at bO (PA q) 27 (.head _)) (Nat.le_refl _) (PA_info _) (PA_one _) (by rfl) ?_)
        generalize w3.setCells bO 0 (PA q2).toList = W4 at *
        go_wp2_with fail
        exact ⟨⟨i, q2, by omega, rfl, hq2, by show _ = _; rw [← Hq2.out, ← Hq.out]; exact Hst.out, hK5⟩, by simp [intOf]⟩
end Go.Proofs.YtaekpoiaigklgaaDoor
