/- Products of the program's numbers. -/
import Derived.Test.YtaefjbklioljnaaDoorF1
namespace Go.Proofs.YtaefjbklioljnaaDoor
open Go.RowKit
/-- What four steps of a row come to. -/
theorem row_sum {a b c d f e0 e1 e2 e3 l0 l1 l2 l3 h0 h1 h2 h3 : Nat} (s0 : a * f + e0 + 0 = l0 + 18446744073709551616 * h0) (s1 : b * f + e1 + h0 = l1 + 18446744073709551616 * h1) (s2 : c * f + e2 + h1 = l2 + 18446744073709551616 * h2) (s3 : d * f + e3 + h2 = l3 + 18446744073709551616 * h3) :
    v4 a b c d * f + v4 e0 e1 e2 e3 = l0 + 18446744073709551616 * v4 l1 l2 l3 h3 := by
  unfold v4
  rw [Nat.add_mul, Nat.add_mul, Nat.add_mul, Nat.mul_assoc, Nat.mul_assoc, Nat.mul_assoc]
  generalize a * f = A at *
  generalize b * f = B at *
  generalize c * f = C at *
  generalize d * f = D at *
  omega
def valRow (l0 l1 l2 l3 h3 : Nat) : Nat → Value
  | 0 => .int .u64 (l0 : Int)
  | 1 => .agg (Q4 l1 l2 l3 h3)
  | 2 => .int .u64 (l0 : Int)
  | _ => undef

set_option maxRecDepth 100000 in
set_option maxHeartbeats 8000000 in
/-- A number times a word, and a number more. -/
theorem row_any (a b c d f e0 e1 e2 e3 : Nat) (ha : a < 18446744073709551616) (hb : b < 18446744073709551616) (hc : c < 18446744073709551616) (hd : d < 18446744073709551616) (hf : f < 18446744073709551616)
    (he0 : e0 < 18446744073709551616) (he1 : e1 < 18446744073709551616) (he2 : e2 < 18446744073709551616) (he3 : e3 < 18446744073709551616) (w : World) :
    Calls Tryd.prog 48 #[.agg (Q4 a b c d), .int .u64 (f : Int), .agg (Q4 e0 e1 e2 e3)] w fun r w' => (∃ l a' b' c' d' : Nat, r = .returned (.tuple #[.int .u64 (l : Int), .agg (Q4 a' b' c' d')]) ∧ l < 18446744073709551616 ∧ a' < 18446744073709551616 ∧ b' < 18446744073709551616 ∧ c' < 18446744073709551616 ∧ d' < 18446744073709551616 ∧ v4 a b c d * f + v4 e0 e1 e2 e3 = l + 18446744073709551616 * v4 a' b' c' d') ∧ Below w.heap.size w w' := by
  have hz := (zero_of_info zeroFN).1
  go_enter Tryd.func48, Tryd.ntmps48
  go_upto_region 1 with fail
  have hK := (((Kp.nil w).alloc (Q4 a b c d) 46).alloc (Q4 e0 e1 e2 e3) 46).alloc (Q4 0 0 0 0) 46
  rw [World.size_alloc, World.size_alloc] at hK
  rw [Q4_zero]
  generalize ((w.alloc (.cells (Q4 a b c d) 46)).alloc (.cells (Q4 e0 e1 e2 e3) 46)).alloc (.cells (Q4 0 0 0 0) 46) = W at *
  obtain ⟨bA, HA⟩ : ∃ bA, Hid (w.heap.size = bA) := ⟨_, rfl⟩
  obtain ⟨bE, HE⟩ : ∃ bE, Hid (bA + 1 = bE) := ⟨_, rfl⟩
  obtain ⟨bR, HR⟩ : ∃ bR, Hid (bE + 1 = bR) := ⟨_, rfl⟩
  have hleR : w.heap.size ≤ bR := by have := HA.out; have := HE.out; have := HR.out; omega
  have n1 : bA ≠ bR := by have := HE.out; have := HR.out; omega
  have n2 : bE ≠ bR := by have := HR.out; omega
  rw [HA.out, HE.out, HR.out] at hK ⊢
  have cA := hK.h3.cell (Q4_0 a b c d)
  have cE := hK.h2.cell (Q4_0 e0 e1 e2 e3)
  go_wp2_with fail
  refine (step_any a f e0 0 ha hf he0 (by decide) W).mono ?_
  rintro r W' ⟨⟨l0, h0, rfl, hl0, hh0, s0⟩, rfl⟩
  have S0 := show Hid _ from s0
  clear s0 cA cE
  have cA := hK.h3.cell (Q4_1 a b c d)
  have cE := hK.h2.cell (Q4_1 e0 e1 e2 e3)
  have fR := hK.h1.frozen 0
  go_wp2_with fail
  refine (step_any b f e1 h0 hb hf he1 hh0 _).mono ?_
  rintro r W' ⟨⟨l1, h1, rfl, hl1, hh1, s1⟩, rfl⟩
  have S1 := show Hid _ from s1
  clear s1 cA cE
  have cR := hK.h1.cell (Q4_0 0 0 0 0)
  go_upto_region 3 with fail
  have hK := Kp.setCell (i := 0) (v := .int .u64 (l1 : Int)) hK (by simp; omega) hleR
  rw [Q4_set0] at hK
  generalize W'.setCell ⟨bR, 0, none⟩ (.int .u64 (l1 : Int)) = W1 at *
  clear fR cR
  have cA := hK.h3.cell (Q4_2 a b c d)
  have cE := hK.h2.cell (Q4_2 e0 e1 e2 e3)
  go_wp2_with fail
  refine (step_any c f e2 h1 hc hf he2 hh1 _).mono ?_
  rintro r W' ⟨⟨l2, h2, rfl, hl2, hh2, s2⟩, rfl⟩
  have S2 := show Hid _ from s2
  clear s2 cA cE
  have cR := hK.h1.cell (Q4_1 l1 0 0 0)
  have fR := hK.h1.frozen 1
  go_upto_region 4 with fail
  have hK := Kp.setCell (i := 1) (v := .int .u64 (l2 : Int)) hK (by simp; omega) hleR
  rw [Q4_set1] at hK
  generalize W'.setCell ⟨bR, 1, none⟩ (.int .u64 (l2 : Int)) = W2 at *
  clear fR cR
  have cA := hK.h3.cell (Q4_3 a b c d)
  have cE := hK.h2.cell (Q4_3 e0 e1 e2 e3)
  go_wp2_with fail
  refine (step_any d f e3 h2 hd hf he3 hh2 _).mono ?_
  rintro r W' ⟨⟨l3, h3, rfl, hl3, hh3, s3⟩, rfl⟩
  have Hend : Hid _ := row_sum S0.out S1.out S2.out s3
  clear s3 cA cE
  have cR := hK.h1.cell (Q4_2 l1 l2 0 0)
  have cR' := hK.h1.cell (Q4_3 l1 l2 0 0)
  have fR := hK.h1.frozen 2
  have fR' := hK.h1.frozen 3
  go_upto_region 5 with fail
  have hK := Kp.setCell (i := 2) (v := .int .u64 (l3 : Int)) hK (by simp; omega) hleR
  rw [Q4_set2] at hK
  have hK := Kp.setCell (i := 3) (v := .int .u64 (h3 : Int)) hK (by simp; omega) hleR
  rw [Q4_set3] at hK
  clear fR cR fR' cR'
  generalize (W'.setCell ⟨bR, 2, none⟩ (.int .u64 (l3 : Int))).setCell ⟨bR, 3, none⟩ (.int .u64 (h3 : Int)) = W3 at *
  refine wp_region_vals 54 (by kernel_rfl) (by kernel_rfl) (by rfl) (valRow l0 l1 l2 l3 h3) (fun _ => Kp [(bR, Q4 l1 l2 l3 h3, 46), (bE, Q4 e0 e1 e2 e3, 46), (bA, Q4 a b c d, 46)] w) hK.drew ?_ ?_
  · intro L ac wc i o hF hLi ho hd K hK
    rcases i with _ | _ | _ | _ | i
    · have ho' := ho
      obtain rfl := Option.some.inj ho
      have f6 : ac.tmps.getD 6 undef = .int .u64 (l0 : Int) := slotv hF 0 hLi 6 (by kernel_rfl)
      refine step_do ho' (wanted_free rfl) ?_
      unfold Oper.wp
      go_simp
      exact hK _ _ (.inr rfl) hF.j
    · have ho' := ho
      obtain rfl := Option.some.inj ho
      have f7 : ac.tmps.getD 7 undef = .pointer (some ⟨bR, 0, none⟩) := slotv hF 1 hLi 7 (by kernel_rfl)
      refine step_do ho' (wanted_free rfl) ?_
      exact wp_load_own 46 (.tmp 7) rfl bR f7 (Q4 l1 l2 l3 h3) _ 46 hF.j.h1 Tryd.underlying46 rfl (Q4_info _ _ _ _) (hK _ _ (.inr rfl) hF.j)
    · have ho' := ho
      obtain rfl := Option.some.inj ho
      have f52 : ac.tmps.getD 52 undef = .int .u64 (l0 : Int) := valv hF hd 0 rfl rfl (by kernel_rfl)
      refine step_do ho' (wanted_free rfl) ?_
      unfold Oper.wp
      go_simp
      exact hK _ _ (.inr rfl) hF.j
    · have ho' := ho
      obtain rfl := Option.some.inj ho
      have f7 : ac.tmps.getD 7 undef = .pointer (some ⟨bR, 0, none⟩) := slotv hF 3 hLi 7 (by kernel_rfl)
      have f53 : ac.tmps.getD 53 undef = .agg (Q4 l1 l2 l3 h3) := valv hF hd 1 rfl rfl (by kernel_rfl)
      refine step_do ho' (wanted_free rfl) ?_
      refine wp_store_own 46 (.tmp 7) (.tmp 53) rfl bR (Q4 l1 l2 l3 h3) f7 f53 hF.j.h1 rfl (Q4_info _ _ _ _) (Q4_one _ _ _ _) rfl ?_
      exact hK undef _ (.inl rfl) (Kp.set hF.j (by simp; omega) hleR rfl)
    · cases ho
  · intro L wq hL hKq
    simp only [putAll, valRow, Act.put, List.setIfInBounds_toArray, List.set_cons_succ, List.set_cons_zero]
    go_wp2_with fail
    exact bodyPost_ret (results_tmp_own Tryd.results48 _ _ bR (Q4 l1 l2 l3 h3) _ (by rfl) hKq.h1 Tryd.underlying46 rfl (Q4_info _ _ _ _)) rfl ⟨⟨l0, l1, l2, l3, h3, rfl, hl0, hl1, hl2, hl3, hh3, Hend.out⟩, hKq.2⟩
end Go.Proofs.YtaefjbklioljnaaDoor
