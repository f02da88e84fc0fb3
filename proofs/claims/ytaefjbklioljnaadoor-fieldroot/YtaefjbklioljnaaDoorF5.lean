/- What is left of the program's numbers, sums and opposites. -/
import Derived.Test.YtaefjbklioljnaaDoorF4
namespace Go.Proofs.YtaefjbklioljnaaDoor
open Go.RowKit
/-- The table p, as the program's text lays it. -/
def TP (w : World) : Prop := 1 < w.heap.size ∧ w.cell? ⟨1, 0, none⟩ = some (.int .u64 18446744073709551597) ∧ w.cell? ⟨1, 1, none⟩ = some (.int .u64 18446744073709551615) ∧ w.cell? ⟨1, 2, none⟩ = some (.int .u64 18446744073709551615) ∧ w.cell? ⟨1, 3, none⟩ = some (.int .u64 9223372036854775807)
theorem TP.keep {w w' : World} (h : TP w) (hB : Below w.heap.size w w') : TP w' := by
  obtain ⟨h0, h1, h2, h3, h4⟩ := h
  have hc := (bcell hB).1
  exact ⟨Nat.lt_of_lt_of_le h0 hB.size, by rw [hc _ _ h0]; exact h1, by rw [hc _ _ h0]; exact h2, by rw [hc _ _ h0]; exact h3, by rw [hc _ _ h0]; exact h4⟩
theorem TP.kp {w w' : World} {l : List (Nat × Array Value × TypeId)} (h : TP w) (hK : Kp l w w') : TP w' := h.keep hK.2
theorem and63 (x : Nat) (h : x < 18446744073709551616) : bits .and .u64 (x : Int) 9223372036854775807 = ((x % 9223372036854775808 : Nat) : Int) := by
  have := u64_and_nat x 9223372036854775807 h (by decide)
  have e := Nat.and_two_pow_sub_one_eq_mod x 63
  rw [show (9223372036854775807 : Nat) = 2 ^ 63 - 1 from rfl, e] at this
  exact this
theorem shr63 (x : Nat) : (x : Int) / 9223372036854775808 = ((x / 9223372036854775808 : Nat) : Int) := by omega
/-- What the first carry comes to. -/
theorem least_first {a b c d a' b' c' d' k n : Nat} (ha : a < 18446744073709551616) (hb : b < 18446744073709551616) (hc : c < 18446744073709551616) (hd : d < 18446744073709551616) (hn : v4 a b c d = n)
    (ha' : a' < 18446744073709551616) (hb' : b' < 18446744073709551616) (hc' : c' < 18446744073709551616) (hd' : d' < 18446744073709551616) (e : v4 a b c (d % 9223372036854775808) + 19 * (d / 9223372036854775808) = v4 a' b' c' d' + R256 * k) :
    v4 a' b' c' d' < 57896044618658097711785492504343953926634992332820282019728792003956564819968 + 19 ∧ v4 a' b' c' d' % pp = n % pp := by
  have hk : k = 0 := by unfold v4 R256 at e; omega
  rw [hk, Nat.mul_zero, Nat.add_zero] at e
  have h1 : v4 a b c d = v4 a b c (d % 9223372036854775808) + 57896044618658097711785492504343953926634992332820282019728792003956564819968 * (d / 9223372036854775808) := by unfold v4; omega
  refine ⟨by rw [← e]; unfold v4; omega, ?_⟩
  rw [← e, ← hn, h1]
  generalize d / 9223372036854775808 = q
  generalize v4 a b c (d % 9223372036854775808) = r
  unfold pp; omega
/-- What the second carry tells. -/
theorem least_second {a b c d m k n : Nat} (ha : a < 18446744073709551616) (hb : b < 18446744073709551616) (hc : c < 18446744073709551616) (hd : d < 18446744073709551616)
    (hm : m < 57896044618658097711785492504343953926634992332820282019728792003956564819968 + 19) (hn : m % pp = n % pp) (e : m + 19 = v4 a b c d + R256 * k) :
    (d / 9223372036854775808 = 0 → m = n % pp) ∧ (d / 9223372036854775808 ≠ 0 → v4 a b c (d % 9223372036854775808) = n % pp) := by
  have hk : k = 0 := by unfold v4 R256 at e; omega
  rw [hk, Nat.mul_zero, Nat.add_zero] at e
  have hp : pp = 57896044618658097711785492504343953926634992332820282019728792003956564819949 := rfl
  refine ⟨fun h => ?_, fun h => ?_⟩
  · rw [← hn, Nat.mod_eq_of_lt]
    rw [hp]; unfold v4 at e; omega
  · have h1 : v4 a b c (d % 9223372036854775808) + 57896044618658097711785492504343953926634992332820282019728792003956564819968 = m + 19 := by rw [e]; unfold v4; omega
    rw [← hn]
    generalize v4 a b c (d % 9223372036854775808) = r at *
    rw [hp]
    omega

set_option maxRecDepth 100000 in
set_option maxHeartbeats 8000000 in
theorem least_any (n : Nat) (hn : n < R256) (w : World) (hT : TP w) :
    Calls Tryd.prog 33 #[.agg (numA n)] w fun r w' => r = .returned (.agg (numA (n % pp))) ∧ Below w.heap.size w w' := by
  have hz := (zero_of_info zeroFN).1
  obtain ⟨a, b, c, d, eN, ha, hb, hc, hd, vN⟩ := open4 hn
  have VN := show Hid _ from vN
  rw [eN]
  clear vN eN
  go_enter Tryd.func33, Tryd.ntmps33
  go_upto_region 1 with fail
  have hK := ((Kp.nil w).alloc (Q4 a b c d) 46).alloc (Q4 0 0 0 0) 46
  rw [World.size_alloc] at hK
  rw [Q4_zero]
  generalize (w.alloc (.cells (Q4 a b c d) 46)).alloc (.cells (Q4 0 0 0 0) 46) = W at *
  obtain ⟨bN, H1⟩ : ∃ bN, Hid (w.heap.size = bN) := ⟨_, rfl⟩
  obtain ⟨bR, H2⟩ : ∃ bR, Hid (bN + 1 = bR) := ⟨_, rfl⟩
  have hleN : w.heap.size ≤ bN := Nat.le_of_eq H1.out
  have hleR : w.heap.size ≤ bR := by have := H1.out; have := H2.out; omega
  have n1 : bR ≠ bN := by have := H2.out; omega
  have nG : bN ≠ 1 := by have := hT.1; omega
  rw [H1.out, H2.out] at hK ⊢
  have hK : Kp [(bN, Q4 a b c d, 46), (bR, Q4 0 0 0 0, 46)] w W := hK.sub (by simp)
  have cD := hK.h1.cell (Q4_3 a b c d)
  have fD := hK.h1.frozen 3
  have cP := (hT.kp hK).2.2.2.2
  have hs := shr63 d
  have hm := and63 d hd
  obtain ⟨top, Htop⟩ : ∃ top, Hid (d / 9223372036854775808 = top) := ⟨_, rfl⟩
  obtain ⟨d1, Hd1⟩ : ∃ d1, Hid (d % 9223372036854775808 = d1) := ⟨_, rfl⟩
  rw [Htop.out] at hs
  rw [Hd1.out] at hm
  have htop : top ≤ 1 := by have := Htop.out; omega
  have hd1 : d1 < 18446744073709551616 := by have := Hd1.out; omega
  go_upto_region 3 with fail
  have hK := Kp.setCell (i := 3) (v := .int .u64 (d1 : Int)) hK (by simp; omega) hleN
  rw [Q4_set3] at hK
  generalize W.setCell ⟨bN, 3, none⟩ (.int .u64 (d1 : Int)) = W1 at *
  clear cD fD cP hs hm
  have hw : IntKind.u64.wrap (19 * (top : Int)) = ((19 * top : Nat) : Int) := by
    rw [show 19 * (top : Int) = ((19 * top : Nat) : Int) by omega]; exact wrap_small _ (by omega)
  go_wp2_with (refine wpList_load_own (by rfl) 46 (.tmp 1) (by rfl) bN (by rfl) (Q4 a b c d1) _ hK.h1 Tryd.underlying46 (by rfl) (Q4_info _ _ _ _) ?_)
  refine (more_any a b c d1 (19 * top) ha hb hc hd1 (by omega) W1).mono ?_
  rintro r W2 ⟨⟨p0, p1, p2, p3, k, rfl, hp0, hp1, hp2, hp3, hk, em⟩, bw⟩
  rw [← Hd1.out, ← Htop.out] at em
  have Hfst : Hid _ := least_first ha hb hc hd VN.out hp0 hp1 hp2 hp3 em
  clear em hw
  have hK := hK.below bw
  go_upto_region 4 with (refine wpList_store_own (by rfl) 46 (.tmp 1) (.tmp 20) (by rfl) bN 0 (Q4 p0 p1 p2 p3) (by rfl) (by rfl) hK.h1 (Q4_le _ _ _ _ _ _ _ _) (Q4_info _ _ _ _) (Q4_one _ _ _ _) (by rfl) ?_)
  have hK := Kp.set (A' := Q4 p0 p1 p2 p3) hK (by simp; omega) hleN rfl
  generalize W2.setCells bN 0 (Q4 p0 p1 p2 p3).toList = W3 at *
  go_wp2_with (refine wpList_load_own (by rfl) 46 (.tmp 1) (by rfl) bN (by rfl) (Q4 p0 p1 p2 p3) _ hK.h1 Tryd.underlying46 (by rfl) (Q4_info _ _ _ _) ?_)
  refine (more_any p0 p1 p2 p3 19 hp0 hp1 hp2 hp3 (by decide) W3).mono ?_
  rintro r W4 ⟨⟨q0, q1, q2, q3, j, rfl, hq0, hq1, hq2, hq3, hj, em⟩, bw⟩
  have Hsnd : Hid _ := least_second hq0 hq1 hq2 hq3 Hfst.out.1 Hfst.out.2 em
  clear em
  have hK := hK.below bw
  have nN := hK.h1.lt
  have nR := hK.h2.lt
  go_upto_region 5 with (refine wpList_store_new (by rfl) 46 (.tmp 4) (.tmp 25) (by rfl) _ (Q4 q0 q1 q2 q3) (by rfl) (by rfl) (Q4_info _ _ _ _) (Q4_sizes 0 0 0 0 _ _ _ _) (Q4_one _ _ _ _) (by rfl) ?_)
  have hK := hK.alloc (Q4 q0 q1 q2 q3) 46
  generalize W4.alloc (.cells (Q4 q0 q1 q2 q3) 46) = W5 at *
  obtain ⟨bA, H3⟩ : ∃ bA, Hid (W4.heap.size = bA) := ⟨_, rfl⟩
  rw [H3.out] at hK nN nR ⊢
  have hleA : w.heap.size ≤ bA := by omega
  have n2 : bR ≠ bA := by omega
  have n3 : bN ≠ bA := by omega
  clear nN nR
  have nG2 : bA ≠ 1 := by have := hT.1; omega
  have cD := hK.h1.cell (Q4_3 q0 q1 q2 q3)
  have fD := hK.h1.frozen 3
  have cP := (hT.kp hK).2.2.2.2
  have hs := shr63 q3
  have hm := and63 q3 hq3
  obtain ⟨up, Hup⟩ : ∃ up, Hid (q3 / 9223372036854775808 = up) := ⟨_, rfl⟩
  obtain ⟨d2, Hd2⟩ : ∃ d2, Hid (q3 % 9223372036854775808 = d2) := ⟨_, rfl⟩
  rw [Hup.out] at hs
  rw [Hd2.out] at hm
  have hd2 : d2 < 18446744073709551616 := by have := Hd2.out; omega
  have H2nd := Hsnd.out
  rw [Hup.out, Hd2.out] at H2nd
  have Hsnd := show Hid _ from H2nd
  clear H2nd
  by_cases hu : up = 0
  · have hui : (up : Int) = 0 := by omega
    have Hend : Hid (Q4 p0 p1 p2 p3 = numA (n % pp)) := Q4_num hp0 hp1 hp2 hp3 (Hsnd.out.1 hu)
    rw [hui] at hs
    go_wp2_with (first
      | refine wpList_load_own (by rfl) 46 (.tmp 1) (by rfl) bN (by rfl) (Q4 p0 p1 p2 p3) _ hK.h2 Tryd.underlying46 (by rfl) (Q4_info _ _ _ _) ?_
      | refine wpList_store_own (by rfl) 46 (.tmp 2) (.tmp 31) (by rfl) bR 0 (Q4 p0 p1 p2 p3) (by rfl) (by rfl) hK.h3 (Q4_le _ _ _ _ _ _ _ _) (Q4_info _ _ _ _) (Q4_one _ _ _ _) (by rfl) ?_)
    exact bodyPost_ret (results_own Tryd.results33 _ _ bR (Q4 p0 p1 p2 p3) _ (by rfl) (own_setCells hK.h3 (Q4_sizes _ _ _ _ _ _ _ _)) Tryd.underlying46 rfl (Q4_info _ _ _ _)) rfl ⟨by rw [Hend.out], Below.setCells _ _ _ _ hleR hK.2⟩
  · have hui : ¬ (up : Int) = 0 := by omega
    have Hend : Hid (Q4 q0 q1 q2 d2 = numA (n % pp)) := Q4_num hq0 hq1 hq2 hd2 (Hsnd.out.2 hu)
    go_upto_region 8 with fail
    have hK := Kp.setCell (i := 3) (v := .int .u64 (d2 : Int)) hK (by simp; omega) hleA
    rw [Q4_set3] at hK
    generalize W5.setCell ⟨bA, 3, none⟩ (.int .u64 (d2 : Int)) = W6 at *
    clear cD fD cP hs hm
    go_wp2_with (first
      | refine wpList_load_own (by rfl) 46 (.tmp 4) (by rfl) bA (by rfl) (Q4 q0 q1 q2 d2) _ hK.h1 Tryd.underlying46 (by rfl) (Q4_info _ _ _ _) ?_
      | refine wpList_store_own (by rfl) 46 (.tmp 2) (.tmp 38) (by rfl) bR 0 (Q4 q0 q1 q2 d2) (by rfl) (by rfl) hK.h3 (Q4_le _ _ _ _ _ _ _ _) (Q4_info _ _ _ _) (Q4_one _ _ _ _) (by rfl) ?_)
    exact bodyPost_ret (results_own Tryd.results33 _ _ bR (Q4 q0 q1 q2 d2) _ (by rfl) (own_setCells hK.h3 (Q4_sizes _ _ _ _ _ _ _ _)) Tryd.underlying46 rfl (Q4_info _ _ _ _)) rfl ⟨by rw [Hend.out], Below.setCells _ _ _ _ hleR hK.2⟩
end Go.Proofs.YtaefjbklioljnaaDoor
