/- Products of the program's numbers, brought below 2^256. -/
import Derived.Test.YtaefjbklioljnaaDoorF2
namespace Go.Proofs.YtaefjbklioljnaaDoor
open Go.RowKit
/-- What is carried above 2^256 is brought down, twice. -/
def fold2 (t : Nat) : Nat := (t % R256 + 38 * (t / R256)) % R256 + 38 * ((t % R256 + 38 * (t / R256)) / R256)
def tmul (x y : Nat) : Nat := fold2 (x * y % R256 + 38 * (x * y / R256))
theorem R256_pos : 0 < R256 := by decide
theorem v4_lt {a b c d : Nat} (ha : a < 18446744073709551616) (hb : b < 18446744073709551616) (hc : c < 18446744073709551616) (hd : d < 18446744073709551616) : v4 a b c d < R256 := by
  unfold v4 R256; omega
theorem v4_zero : v4 0 0 0 0 = 0 := rfl
theorem Q4_num {a b c d n : Nat} (ha : a < 18446744073709551616) (hb : b < 18446744073709551616) (hc : c < 18446744073709551616) (hd : d < 18446744073709551616) (hn : v4 a b c d = n) : Q4 a b c d = numA n := by
  have h0 : dig n 0 = a := by rw [← hn]; unfold dig v4; rw [Nat.pow_zero]; omega
  have h1 : dig n 1 = b := by rw [← hn]; unfold dig v4; rw [Nat.pow_one]; omega
  have h2 : dig n 2 = c := by rw [← hn]; unfold dig v4; rw [show (18446744073709551616 : Nat) ^ 2 = 340282366920938463463374607431768211456 from rfl]; omega
  have h3 : dig n 3 = d := by rw [← hn]; unfold dig v4; rw [show (18446744073709551616 : Nat) ^ 3 = 6277101735386680763835789423207666416102355444464034512896 from rfl]; omega
  unfold numA A4 Q4
  rw [h0, h1, h2, h3]
theorem numA_Q4 (n : Nat) : numA n = Q4 (dig n 0) (dig n 1) (dig n 2) (dig n 3) := rfl
theorem v4_dig {n : Nat} (h : n < R256) : v4 (dig n 0) (dig n 1) (dig n 2) (dig n 3) = n := by
  unfold R256 at h
  unfold dig v4
  rw [Nat.pow_zero, Nat.pow_one, show (18446744073709551616 : Nat) ^ 2 = 340282366920938463463374607431768211456 from rfl, show (18446744073709551616 : Nat) ^ 3 = 6277101735386680763835789423207666416102355444464034512896 from rfl]
  omega
/-- A number opened as its words. -/
theorem open4 {n : Nat} (h : n < R256) : ∃ a b c d, numA n = Q4 a b c d ∧ a < 18446744073709551616 ∧ b < 18446744073709551616 ∧ c < 18446744073709551616 ∧ d < 18446744073709551616 ∧ v4 a b c d = n :=
  ⟨_, _, _, _, numA_Q4 n, dig_lt _ _, dig_lt _ _, dig_lt _ _, dig_lt _ _, v4_dig h⟩
theorem fold_first {low high l ra rb rc rd R t : Nat} (hR : R256 = R) (hl : l < 18446744073709551616) (hra : ra < 18446744073709551616) (hrb : rb < 18446744073709551616) (hrc : rc < 18446744073709551616) (ht : low + 38 * high = t)
    (e : high * 38 + low = l + 18446744073709551616 * v4 ra rb rc rd) : v4 l ra rb rc = t % R ∧ rd = t / R := by
  have h1 := v4_lt hl hra hrb hrc
  have h2 : t = v4 l ra rb rc + R * rd := by
    rw [← hR]; unfold v4 R256; unfold v4 at e; omega
  rw [hR] at h1
  rw [h2, Nat.add_mul_mod_self_left, Nat.mod_eq_of_lt h1, Nat.add_mul_div_left _ _ (by omega), Nat.div_eq_of_lt h1, Nat.zero_add]
  exact ⟨rfl, rfl⟩
theorem divmod_of {u n c R : Nat} (hn : n < R) (e : u = n + R * c) : n = u % R ∧ c = u / R := by
  rw [e, Nat.add_mul_mod_self_left, Nat.mod_eq_of_lt hn, Nat.add_mul_div_left _ _ (by omega), Nat.div_eq_of_lt hn, Nat.zero_add]
  exact ⟨rfl, rfl⟩
theorem fold_top_le {low high : Nat} (hl : low < R256) (hh : high < R256) : (low + 38 * high) / R256 ≤ 38 := by
  unfold R256 at *; omega
theorem fold_small {t : Nat} (h : t / R256 ≤ 38) : fold2 t < R256 ∧ (t % R256 + 38 * (t / R256)) / R256 ≤ 1 := by
  unfold fold2
  have h1 := Nat.mod_lt t R256_pos
  generalize t % R256 = a at *
  generalize t / R256 = b at *
  unfold R256 at *
  omega
theorem prod_top {x y : Nat} (hx : x < R256) (hy : y < R256) : x * y / R256 < R256 := by
  rcases Nat.eq_zero_or_pos y with h | h
  · rw [h, Nat.mul_zero, Nat.zero_div]; exact R256_pos
  · refine Nat.div_lt_of_lt_mul ?_
    exact Nat.lt_of_lt_of_le (Nat.mul_lt_mul_of_pos_right hx h) (Nat.mul_le_mul_left _ (Nat.le_of_lt hy))
theorem tmul_lt {x y : Nat} (hx : x < R256) (hy : y < R256) : tmul x y < R256 :=
  (fold_small (fold_top_le (Nat.mod_lt _ R256_pos) (prod_top hx hy))).1
theorem down_mod {a b R : Nat} (hR : R256 = R) : (a + 38 * b) % pp = (a + R * b) % pp := by
  rw [← hR]; unfold R256 pp; omega
theorem fold2_mod (t : Nat) : fold2 t % pp = t % pp := by
  unfold fold2
  rw [down_mod rfl, Nat.mod_add_div, down_mod rfl, Nat.mod_add_div]
theorem tmul_mod (x y : Nat) : tmul x y % pp = x * y % pp := by
  unfold tmul
  rw [fold2_mod, down_mod rfl, Nat.mod_add_div]

set_option maxRecDepth 100000 in
set_option maxHeartbeats 8000000 in
/-- What is above 2^256 brought down. -/
theorem folded_any {low high t : Nat} (hl : low < R256) (hh : high < R256) (ht : low + 38 * high = t) (w : World) :
    Calls Tryd.prog 49 #[.agg (numA low), .agg (numA high)] w fun r w' => r = .returned (.agg (numA (fold2 t))) ∧ Below w.heap.size w w' := by
  have hz := (zero_of_info zeroFN).1
  obtain ⟨R, HR⟩ : ∃ R, Hid (R256 = R) := ⟨_, rfl⟩
  have Ht38 : Hid (t / R ≤ 38) := by rw [← HR.out, ← ht]; exact fold_top_le hl hh
  have Hsm : Hid (fold2 t < R ∧ (t % R + 38 * (t / R)) / R ≤ 1) := by
    have := Ht38.out; rw [← HR.out] at *; exact fold_small this
  have Hf2 : Hid (fold2 t = (t % R + 38 * (t / R)) % R + 38 * ((t % R + 38 * (t / R)) / R)) := by rw [← HR.out]; rfl
  have Ht := show Hid _ from ht
  clear ht
  obtain ⟨a, b, c, d, eL, ha, hb, hc, hd, vL⟩ := open4 hl
  obtain ⟨e, f, g, h, eH, he, hf, hg, hh', vH⟩ := open4 hh
  have VL := show Hid _ from vL
  have VH := show Hid _ from vH
  rw [eL, eH]
  clear vL vH eL eH
  go_enter Tryd.func49, Tryd.ntmps49
  go_upto_region 1 with fail
  have hK := (((Kp.nil w).alloc (Q4 a b c d) 46).alloc (Q4 e f g h) 46).alloc (Q4 0 0 0 0) 46
  rw [World.size_alloc, World.size_alloc] at hK
  rw [Q4_zero]
  generalize ((w.alloc (.cells (Q4 a b c d) 46)).alloc (.cells (Q4 e f g h) 46)).alloc (.cells (Q4 0 0 0 0) 46) = W at *
  obtain ⟨bL, H1⟩ : ∃ bL, Hid (w.heap.size = bL) := ⟨_, rfl⟩
  obtain ⟨bH, H2⟩ : ∃ bH, Hid (bL + 1 = bH) := ⟨_, rfl⟩
  obtain ⟨bR, H3⟩ : ∃ bR, Hid (bH + 1 = bR) := ⟨_, rfl⟩
  have hleR : w.heap.size ≤ bR := by have := H1.out; have := H2.out; have := H3.out; omega
  rw [H1.out, H2.out, H3.out] at hK ⊢
  go_wp2_with (first
    | refine wpList_load_own (by rfl) 46 (.tmp 3) (by rfl) bH (by rfl) (Q4 e f g h) _ hK.h2 Tryd.underlying46 (by rfl) (Q4_info _ _ _ _) ?_
    | refine wpList_load_own (by rfl) 46 (.tmp 2) (by rfl) bL (by rfl) (Q4 a b c d) _ hK.h3 Tryd.underlying46 (by rfl) (Q4_info _ _ _ _) ?_)
  refine (row_any e f g h 38 a b c d he hf hg hh' (by decide) ha hb hc hd W).mono ?_
  rintro r W1 ⟨⟨l, ra, rb, rc, rd, rfl, hl0, hra, hrb, hrc, hrd, er⟩, bw1⟩
  rw [VH.out, VL.out] at er
  have Hfirst : Hid _ := fold_first HR.out hl0 hra hrb hrc Ht.out er
  clear er
  have hK := hK.below bw1
  go_upto_region 2 with (refine wpList_store_new (by rfl) 46 (.tmp 6) (.tmp 14) (by rfl) _ (Q4 ra rb rc rd) (by rfl) (by rfl) (Q4_info _ _ _ _) (Q4_sizes 0 0 0 0 _ _ _ _) (Q4_one _ _ _ _) (by rfl) ?_)
  have hK := hK.alloc (Q4 ra rb rc rd) 46
  generalize W1.alloc (.cells (Q4 ra rb rc rd) 46) = W2 at *
  obtain ⟨bS, H4⟩ : ∃ bS, Hid (W1.heap.size = bS) := ⟨_, rfl⟩
  rw [H4.out] at hK ⊢
  have hrd38 : rd ≤ 38 := by rw [Hfirst.out.2]; exact Ht38.out
  have hw : IntKind.u64.wrap (38 * (rd : Int)) = ((38 * rd : Nat) : Int) := by
    rw [show 38 * (rd : Int) = ((38 * rd : Nat) : Int) by omega]; exact wrap_small _ (by omega)
  have c0 := hK.h1.cell (Q4_0 ra rb rc rd)
  have c1 := hK.h1.cell (Q4_1 ra rb rc rd)
  have c2 := hK.h1.cell (Q4_2 ra rb rc rd)
  have c3 := hK.h1.cell (Q4_3 ra rb rc rd)
  go_wp2_with fail
  refine (more_any l ra rb rc (38 * rd) hl0 hra hrb hrc (by omega) W2).mono ?_
  rintro r W3 ⟨⟨p0, p1, p2, p3, k, rfl, hp0, hp1, hp2, hp3, hk, em⟩, bw3⟩
  rw [HR.out] at em
  have hpR : v4 p0 p1 p2 p3 < R := by rw [← HR.out]; exact v4_lt hp0 hp1 hp2 hp3
  have Hsec : Hid (v4 p0 p1 p2 p3 = (t % R + 38 * (t / R)) % R ∧ k = (t % R + 38 * (t / R)) / R) := by
    have h := Hfirst.out
    rw [h.1, h.2] at em
    exact divmod_of hpR em
  clear em c0 c1 c2 c3 hw
  have hK := hK.below bw3
  have nR := hK.h2.lt
  go_upto_region 3 with (refine wpList_store_new (by rfl) 46 (.tmp 7) (.tmp 28) (by rfl) _ (Q4 p0 p1 p2 p3) (by rfl) (by rfl) (Q4_info _ _ _ _) (Q4_sizes 0 0 0 0 _ _ _ _) (Q4_one _ _ _ _) (by rfl) ?_)
  have hK := hK.alloc (Q4 p0 p1 p2 p3) 46
  have hleN := hK.h1.lt
  have hleW := hK.2.size
  generalize W3.alloc (.cells (Q4 p0 p1 p2 p3) 46) = W4 at *
  have hN3 : w.heap.size ≤ W3.heap.size := by have := H1.out; have := H2.out; have := H3.out; omega
  clear hleN hleW
  obtain ⟨bN, H5⟩ : ∃ bN, Hid (W3.heap.size = bN) := ⟨_, rfl⟩
  rw [H5.out] at hK nR hN3 ⊢
  have nR : bR ≠ bN := by omega
  have hK : Kp [(bN, Q4 p0 p1 p2 p3, 46), (bR, Q4 0 0 0 0, 46)] w W4 := hK.sub (by simp)
  have hw : IntKind.u64.wrap (38 * (k : Int)) = ((38 * k : Nat) : Int) := by
    rw [show 38 * (k : Int) = ((38 * k : Nat) : Int) by omega]; exact wrap_small _ (by omega)
  go_wp2_with (refine wpList_load_own (by rfl) 46 (.tmp 7) (by rfl) bN (by rfl) (Q4 p0 p1 p2 p3) _ hK.h1 Tryd.underlying46 (by rfl) (Q4_info _ _ _ _) ?_)
  refine (more_any p0 p1 p2 p3 (38 * k) hp0 hp1 hp2 hp3 (by omega) W4).mono ?_
  rintro r W5 ⟨⟨q0, q1, q2, q3, j, rfl, hq0, hq1, hq2, hq3, hj, em⟩, bw5⟩
  have Hq : Hid (Q4 q0 q1 q2 q3 = numA (fold2 t)) := by
    refine Q4_num hq0 hq1 hq2 hq3 ?_
    rw [HR.out] at em
    have h1 := Hsec.out
    have h2 := Hf2.out
    have h3 := Hsm.out.1
    rw [← h1.1, ← h1.2] at h2
    rw [h2, em] at h3
    rw [h2, em]
    rcases Nat.eq_zero_or_pos j with h0 | h0
    · rw [h0, Nat.mul_zero, Nat.add_zero]
    · have : j = 1 := by omega
      rw [this, Nat.mul_one] at h3
      omega
  clear em hw
  have hK := hK.below bw5
  go_upto_region 4 with (refine wpList_store_own (by rfl) 46 (.tmp 7) (.tmp 35) (by rfl) bN 0 (Q4 q0 q1 q2 q3) (by rfl) (by rfl) hK.h1 (Q4_le _ _ _ _ _ _ _ _) (Q4_info _ _ _ _) (Q4_one _ _ _ _) (by rfl) ?_)
  have hK := Kp.set (A' := Q4 q0 q1 q2 q3) hK (by simp; omega) hN3 rfl
  generalize W5.setCells bN 0 (Q4 q0 q1 q2 q3).toList = W6 at *
  go_wp2_with (first
    | refine wpList_load_own (by rfl) 46 (.tmp 7) (by rfl) bN (by rfl) (Q4 q0 q1 q2 q3) _ hK.h1 Tryd.underlying46 (by rfl) (Q4_info _ _ _ _) ?_
    | refine wpList_store_own (by rfl) 46 (.tmp 4) (.tmp 37) (by rfl) bR 0 (Q4 q0 q1 q2 q3) (by rfl) (by rfl) hK.h2 (Q4_le _ _ _ _ _ _ _ _) (Q4_info _ _ _ _) (Q4_one _ _ _ _) (by rfl) ?_)
  exact bodyPost_ret (results_own Tryd.results49 _ _ bR (Q4 q0 q1 q2 q3) _ (by rfl) (own_setCells hK.h2 (Q4_sizes _ _ _ _ _ _ _ _)) Tryd.underlying46 rfl (Q4_info _ _ _ _)) rfl ⟨by rw [Hq.out], Below.setCells _ _ _ _ hleR hK.2⟩
end Go.Proofs.YtaefjbklioljnaaDoor
