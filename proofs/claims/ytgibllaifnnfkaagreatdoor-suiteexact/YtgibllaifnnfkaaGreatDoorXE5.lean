/- Of the texts FA: what the card of this claim reaches. -/
import Derived.Test.YtgibllaifnnfkaaGreatDoorXE3
import Derived.Test.YtgibllaifnnfkaaGreatDoorXE4
namespace Go.Proofs.YtgibllaifnnfkaaGreatDoor
open Go.RowKit
def Q4 (a b c d : Nat) : Array Value := #[.int .u64 (a : Int), .int .u64 (b : Int), .int .u64 (c : Int), .int .u64 (d : Int)]
def v4 (a b c d : Nat) : Nat := a + 18446744073709551616 * b + 340282366920938463463374607431768211456 * c + 6277101735386680763835789423207666416102355444464034512896 * d
theorem infoFN : (Tryz.prog.info? 131).map (·.size) = some 4 := by kernel_rfl
theorem zeroFN : (Tryz.prog.info? 131).map (fun i => (i.zero, i.size)) = some (some (.agg #[.int .u64 0, .int .u64 0, .int .u64 0, .int .u64 0]), 4) := by kernel_rfl
theorem Q4_info (a b c d : Nat) : (Tryz.prog.info? 131).map (·.size) = some (Q4 a b c d).size := infoFN
theorem Q4_one (a b c d : Nat) : (Q4 a b c d).all (·.oneCell') = true := by simp [Q4, Value.oneCell']
theorem Q4_sizes (a b c d a' b' c' d' : Nat) : (Q4 a b c d).size = (Q4 a' b' c' d').size := rfl
theorem Q4_le (a b c d a' b' c' d' : Nat) : 0 + (Q4 a b c d).size ≤ (Q4 a' b' c' d').size := Nat.le_refl _
theorem Q4_0 (a b c d : Nat) : (Q4 a b c d)[0]? = some (.int .u64 (a : Int)) := rfl
theorem Q4_1 (a b c d : Nat) : (Q4 a b c d)[1]? = some (.int .u64 (b : Int)) := rfl
theorem Q4_2 (a b c d : Nat) : (Q4 a b c d)[2]? = some (.int .u64 (c : Int)) := rfl
theorem Q4_3 (a b c d : Nat) : (Q4 a b c d)[3]? = some (.int .u64 (d : Int)) := rfl
theorem Q4_set0 (a b c d x : Nat) : (Q4 a b c d).setIfInBounds 0 (.int .u64 (x : Int)) = Q4 x b c d := rfl
theorem Q4_set1 (a b c d x : Nat) : (Q4 a b c d).setIfInBounds 1 (.int .u64 (x : Int)) = Q4 a x c d := rfl
theorem Q4_set2 (a b c d x : Nat) : (Q4 a b c d).setIfInBounds 2 (.int .u64 (x : Int)) = Q4 a b x d := rfl
theorem Q4_set3 (a b c d x : Nat) : (Q4 a b c d).setIfInBounds 3 (.int .u64 (x : Int)) = Q4 a b c x := rfl
theorem Q4_zero : (#[.int .u64 0, .int .u64 0, .int .u64 0, .int .u64 0] : Array Value) = Q4 0 0 0 0 := rfl
theorem results_tmp_own {P : Program} {fn : Func} {p u : Tmp} {ty : TypeId} (h : fn.results = #[.tmp u, .cell p ty]) (tmps : Array Value) (w : World) (b : Nat) (A : Array Value) (d : TypeDesc)
    (hp : tmps.getD p undef = .pointer (some ⟨b, 0, none⟩)) {t : TypeId} (ho : Own w b A t) (hu : P.underlying ty = some d) (hd : d.isRow = true) (hi : (P.info? ty).map (·.size) = some A.size) :
    (results fn tmps).run P w = .ok (.tuple #[tmps.getD u undef, .agg A]) w := by
  have := run_loadVar_mid w b 0 ty A.toList d ho.range hu hd (by simpa using hi)
  have e : (results fn tmps).run P w = ((asAddr (tmps.getD p undef)).run P w).andThen fun a w₁ => ((loadVar ty a).run P w₁).andThen fun v w₂ => .ok (.tuple #[tmps.getD u undef, v]) w₂ := by
    simp only [results, h]
    simp [Sem.run_bind, Result.andThen]
  rw [e, hp]
  simp [asAddr, this]
theorem wordMul (a b : Nat) (ha : a < 18446744073709551616) (hb : b < 18446744073709551616) : a * b ≤ 340282366920938463426481119284349108225 := by
  have : a * b ≤ 18446744073709551615 * 18446744073709551615 := Nat.mul_le_mul (by omega) (by omega)
  omega
set_option maxRecDepth 100000 in
set_option maxHeartbeats 4000000 in
theorem step_any (x y e k : Nat) (hx : x < 18446744073709551616) (hy : y < 18446744073709551616) (he : e < 18446744073709551616) (hk : k < 18446744073709551616) (w : World) :
    Calls Tryz.prog 130 #[.int .u64 (x : Int), .int .u64 (y : Int), .int .u64 (e : Int), .int .u64 (k : Int)] w fun r w' => (∃ l h : Nat, r = .returned (.tuple #[.int .u64 (l : Int), .int .u64 (h : Int)]) ∧ l < 18446744073709551616 ∧ h < 18446744073709551616 ∧ x * y + e + k = l + 18446744073709551616 * h) ∧ w' = w := by
  have hxy := wordMul x y hx hy
  go_enter Tryz.func130, Tryz.ntmps130
  go_wp2_with fail
  refine (mul64_any x y hx hy w).mono ?_
  rintro r w1 ⟨⟨h, l, rfl, hh, hl, hp⟩, rfl⟩
  obtain ⟨l1, c1, r1, hl1, hc1, e1⟩ := add64_any l e 0 hl he (by omega)
  obtain ⟨l2, c2, r2, hl2, hc2, e2⟩ := add64_any l1 k 0 hl1 hk (by omega)
  have r1 : ∀ w, (callFunc 85 #[.int .u64 (l : Int), .int .u64 (e : Int), .int .u64 0]).run Tryz.prog w = .ok (.value (.tuple #[.int .u64 (l1 : Int), .int .u64 (c1 : Int)])) w := r1
  have r2 : ∀ w, (callFunc 85 #[.int .u64 (l1 : Int), .int .u64 (k : Int), .int .u64 0]).run Tryz.prog w = .ok (.value (.tuple #[.int .u64 (l2 : Int), .int .u64 (c2 : Int)])) w := r2
  obtain ⟨p, Hx⟩ : ∃ p, Hid (x * y = p) := ⟨_, rfl⟩
  rw [Hx.out] at hp hxy
  have hw1 : IntKind.u64.wrap ((h : Int) + (c1 : Int)) = ((h + c1 : Nat) : Int) := by
    rw [show (h : Int) + (c1 : Int) = ((h + c1 : Nat) : Int) by omega]; exact wrap_small _ (by omega)
  have hw2 : IntKind.u64.wrap (((h + c1 : Nat) : Int) + (c2 : Int)) = ((h + c1 + c2 : Nat) : Int) := by
    rw [show ((h + c1 : Nat) : Int) + (c2 : Int) = ((h + c1 + c2 : Nat) : Int) by omega]; exact wrap_small _ (by omega)
  have Hend : Hid (p + e + k = l2 + 18446744073709551616 * (h + c1 + c2)) := by show _ = _; omega
  have hlt : h + c1 + c2 < 18446744073709551616 := by omega
  clear hp e1 e2 hxy
  generalize h + c1 + c2 = h2 at *
  generalize h + c1 = h1 at *
  go_wp2_with fail
  exact bodyPost_ret (results_tmp2 Tryz.results130 _ _ _) rfl ⟨⟨l2, h2, rfl, hl2, hlt, by rw [Hx.out]; exact Hend.out⟩, rfl⟩
set_option maxRecDepth 100000 in
set_option maxHeartbeats 4000000 in
theorem more_any (a b c d e : Nat) (ha : a < 18446744073709551616) (hb : b < 18446744073709551616) (hc : c < 18446744073709551616) (hd : d < 18446744073709551616) (he : e < 18446744073709551616) (w : World) :
    Calls Tryz.prog 129 #[.agg (Q4 a b c d), .int .u64 (e : Int)] w fun r w' => (∃ a' b' c' d' k : Nat, r = .returned (.tuple #[.agg (Q4 a' b' c' d'), .int .u64 (k : Int)]) ∧ a' < 18446744073709551616 ∧ b' < 18446744073709551616 ∧ c' < 18446744073709551616 ∧ d' < 18446744073709551616 ∧ k ≤ 1 ∧ v4 a b c d + e = v4 a' b' c' d' + R256 * k) ∧ Below w.heap.size w w' := by
  have hz := (zero_of_info zeroFN).1
  obtain ⟨s0, k0, r0, hs0, hk0, e0⟩ := add64_any a e 0 ha he (by omega)
  obtain ⟨s1, k1, r1, hs1, hk1, e1⟩ := add64_any b 0 k0 hb (by omega) hk0
  obtain ⟨s2, k2, r2, hs2, hk2, e2⟩ := add64_any c 0 k1 hc (by omega) hk1
  obtain ⟨s3, k3, r3, hs3, hk3, e3⟩ := add64_any d 0 k2 hd (by omega) hk2
  have Hend : Hid (v4 a b c d + e = v4 s0 s1 s2 s3 + R256 * k3) := by show _ = _; unfold v4 R256; omega
  clear e0 e1 e2 e3
  have r0 : ∀ w, (callFunc 85 #[.int .u64 (a : Int), .int .u64 (e : Int), .int .u64 0]).run Tryz.prog w = .ok (.value (.tuple #[.int .u64 (s0 : Int), .int .u64 (k0 : Int)])) w := r0
  have r1 : ∀ w, (callFunc 85 #[.int .u64 (b : Int), .int .u64 0, .int .u64 (k0 : Int)]).run Tryz.prog w = .ok (.value (.tuple #[.int .u64 (s1 : Int), .int .u64 (k1 : Int)])) w := r1
  have r2 : ∀ w, (callFunc 85 #[.int .u64 (c : Int), .int .u64 0, .int .u64 (k1 : Int)]).run Tryz.prog w = .ok (.value (.tuple #[.int .u64 (s2 : Int), .int .u64 (k2 : Int)])) w := r2
  have r3 : ∀ w, (callFunc 85 #[.int .u64 (d : Int), .int .u64 0, .int .u64 (k2 : Int)]).run Tryz.prog w = .ok (.value (.tuple #[.int .u64 (s3 : Int), .int .u64 (k3 : Int)])) w := r3
  go_enter Tryz.func129, Tryz.ntmps129
  go_upto_region 1 with fail
  have hK := ((Kp.nil w).alloc (Q4 a b c d) 131).alloc (Q4 0 0 0 0) 131
  rw [World.size_alloc] at hK
  rw [Q4_zero]
  generalize (w.alloc (.cells (Q4 a b c d) 131)).alloc (.cells (Q4 0 0 0 0) 131) = W at *
  obtain ⟨bA, HA⟩ : ∃ bA, Hid (w.heap.size = bA) := ⟨_, rfl⟩
  obtain ⟨bR, HR⟩ : ∃ bR, Hid (bA + 1 = bR) := ⟨_, rfl⟩
  have hle : w.heap.size ≤ bA := Nat.le_of_eq HA.out
  have hleR : w.heap.size ≤ bR := by have := HR.out; omega
  have n1 : bR ≠ bA := by have := HR.out; omega
  rw [HA.out, HR.out] at hK ⊢
  have hK : Kp [(bA, Q4 a b c d, 131), (bR, Q4 0 0 0 0, 131)] w W := hK.sub (by simp)
  have c0 := hK.h1.cell (Q4_0 a b c d)
  have f0 := hK.h1.frozen 0
  go_upto_region 2 with fail
  have hK := Kp.setCell (i := 0) (v := .int .u64 (s0 : Int)) hK (by simp; omega) hle
  rw [Q4_set0] at hK
  generalize W.setCell ⟨bA, 0, none⟩ (.int .u64 (s0 : Int)) = W1 at *
  clear c0 f0 r0
  have c0 := hK.h1.cell (Q4_1 s0 b c d)
  have f0 := hK.h1.frozen 1
  go_upto_region 3 with fail
  have hK := Kp.setCell (i := 1) (v := .int .u64 (s1 : Int)) hK (by simp; omega) hle
  rw [Q4_set1] at hK
  generalize W1.setCell ⟨bA, 1, none⟩ (.int .u64 (s1 : Int)) = W2 at *
  clear c0 f0 r1
  have c0 := hK.h1.cell (Q4_2 s0 s1 c d)
  have f0 := hK.h1.frozen 2
  go_upto_region 4 with fail
  have hK := Kp.setCell (i := 2) (v := .int .u64 (s2 : Int)) hK (by simp; omega) hle
  rw [Q4_set2] at hK
  generalize W2.setCell ⟨bA, 2, none⟩ (.int .u64 (s2 : Int)) = W3 at *
  clear c0 f0 r2
  have c0 := hK.h1.cell (Q4_3 s0 s1 s2 d)
  have f0 := hK.h1.frozen 3
  go_upto_region 5 with fail
  have hK := Kp.setCell (i := 3) (v := .int .u64 (s3 : Int)) hK (by simp; omega) hle
  rw [Q4_set3] at hK
  generalize W3.setCell ⟨bA, 3, none⟩ (.int .u64 (s3 : Int)) = W4 at *
  clear c0 f0 r3
  go_wp2_with (first
    | refine wpList_load_own (by rfl) 131 (.tmp 2) (by rfl) bA (by rfl) (Q4 s0 s1 s2 s3) _ hK.h1 Tryz.underlying131 (by rfl) (Q4_info _ _ _ _) ?_
    | refine wpList_store_own (by rfl) 131 (.tmp 4) (.tmp 38) (by rfl) bR 0 (Q4 s0 s1 s2 s3) (by rfl) (by rfl) hK.h2 (Q4_le _ _ _ _ _ _ _ _) (Q4_info _ _ _ _) (Q4_one _ _ _ _) (by rfl) ?_)
  exact bodyPost_ret (results_own_tmp Tryz.results129 _ _ bR (Q4 s0 s1 s2 s3) _ (by rfl) (own_setCells hK.h2 (Q4_sizes _ _ _ _ _ _ _ _)) Tryz.underlying131 rfl (Q4_info _ _ _ _)) rfl ⟨⟨s0, s1, s2, s3, k3, rfl, hs0, hs1, hs2, hs3, hk3, Hend.out⟩, Below.setCells _ _ _ _ hleR hK.2⟩
end Go.Proofs.YtgibllaifnnfkaaGreatDoor
namespace Go.Proofs.YtgibllaifnnfkaaGreatDoor
open Go.RowKit
theorem row_sum {a b c d f e0 e1 e2 e3 l0 l1 l2 l3 h0 h1 h2 h3 : Nat} (s0 : a * f + e0 + 0 = l0 + 18446744073709551616 * h0) (s1 : b * f + e1 + h0 = l1 + 18446744073709551616 * h1) (s2 : c * f + e2 + h1 = l2 + 18446744073709551616 * h2) (s3 : d * f + e3 + h2 = l3 + 18446744073709551616 * h3) :
    v4 a b c d * f + v4 e0 e1 e2 e3 = l0 + 18446744073709551616 * v4 l1 l2 l3 h3 := by
  unfold v4
  rw [Nat.add_mul, Nat.add_mul, Nat.add_mul, Nat.mul_assoc, Nat.mul_assoc, Nat.mul_assoc]
  generalize a * f = A at *
  generalize b * f = B at *
  generalize c * f = C at *
  generalize d * f = D at *
  omega
set_option maxRecDepth 100000 in
set_option maxHeartbeats 8000000 in
theorem row_any (a b c d f e0 e1 e2 e3 : Nat) (ha : a < 18446744073709551616) (hb : b < 18446744073709551616) (hc : c < 18446744073709551616) (hd : d < 18446744073709551616) (hf : f < 18446744073709551616)
    (he0 : e0 < 18446744073709551616) (he1 : e1 < 18446744073709551616) (he2 : e2 < 18446744073709551616) (he3 : e3 < 18446744073709551616) (w : World) :
    Calls Tryz.prog 123 #[.agg (Q4 a b c d), .int .u64 (f : Int), .agg (Q4 e0 e1 e2 e3)] w fun r w' => (∃ l a' b' c' d' : Nat, r = .returned (.tuple #[.int .u64 (l : Int), .agg (Q4 a' b' c' d')]) ∧ l < 18446744073709551616 ∧ a' < 18446744073709551616 ∧ b' < 18446744073709551616 ∧ c' < 18446744073709551616 ∧ d' < 18446744073709551616 ∧ v4 a b c d * f + v4 e0 e1 e2 e3 = l + 18446744073709551616 * v4 a' b' c' d') ∧ Below w.heap.size w w' := by
  have hz := (zero_of_info zeroFN).1
  go_enter Tryz.func123, Tryz.ntmps123
  go_upto_region 1 with fail
  have hK := (((Kp.nil w).alloc (Q4 a b c d) 131).alloc (Q4 e0 e1 e2 e3) 131).alloc (Q4 0 0 0 0) 131
  rw [World.size_alloc, World.size_alloc] at hK
  rw [Q4_zero]
  generalize ((w.alloc (.cells (Q4 a b c d) 131)).alloc (.cells (Q4 e0 e1 e2 e3) 131)).alloc (.cells (Q4 0 0 0 0) 131) = W at *
  obtain ⟨bA, HA⟩ : ∃ bA, Hid (w.heap.size = bA) := ⟨_, rfl⟩
  obtain ⟨bE, HE⟩ : ∃ bE, Hid (bA + 1 = bE) := ⟨_, rfl⟩
  obtain ⟨bR, HR⟩ : ∃ bR, Hid (bE + 1 = bR) := ⟨_, rfl⟩
  have hleR : w.heap.size ≤ bR := by have := HA.out; have := HE.out; have := HR.out; omega
  have n1 : bA ≠ bR := by have := HE.out; have := HR.out; omega
  have n2 : bE ≠ bR := by have := HR.out; omega
  rw [HA.out, HE.out, HR.out] at hK ⊢
  have cA := hK.h3.cell (Q4_0 a b c d)
  have cE := hK.h2.cell (Q4_0 e0 e1 e2 e3)
  go_wp2_with fail
  refine (step_any a f e0 0 ha hf he0 (by decide) W).mono ?_
  rintro r W' ⟨⟨l0, h0, rfl, hl0, hh0, s0⟩, rfl⟩
  have S0 := show Hid _ from s0
  clear s0 cA cE
  have cA := hK.h3.cell (Q4_1 a b c d)
  have cE := hK.h2.cell (Q4_1 e0 e1 e2 e3)
  have fR := hK.h1.frozen 0
  go_wp2_with fail
  refine (step_any b f e1 h0 hb hf he1 hh0 _).mono ?_
  rintro r W' ⟨⟨l1, h1, rfl, hl1, hh1, s1⟩, rfl⟩
  have S1 := show Hid _ from s1
  clear s1 cA cE
  have cR := hK.h1.cell (Q4_0 0 0 0 0)
  go_upto_region 3 with fail
  have hK := Kp.setCell (i := 0) (v := .int .u64 (l1 : Int)) hK (by simp; omega) hleR
  rw [Q4_set0] at hK
  generalize W'.setCell ⟨bR, 0, none⟩ (.int .u64 (l1 : Int)) = W1 at *
  clear fR cR
  have cA := hK.h3.cell (Q4_2 a b c d)
  have cE := hK.h2.cell (Q4_2 e0 e1 e2 e3)
  go_wp2_with fail
  refine (step_any c f e2 h1 hc hf he2 hh1 _).mono ?_
  rintro r W' ⟨⟨l2, h2, rfl, hl2, hh2, s2⟩, rfl⟩
  have S2 := show Hid _ from s2
  clear s2 cA cE
  have cR := hK.h1.cell (Q4_1 l1 0 0 0)
  have fR := hK.h1.frozen 1
  go_upto_region 4 with fail
  have hK := Kp.setCell (i := 1) (v := .int .u64 (l2 : Int)) hK (by simp; omega) hleR
  rw [Q4_set1] at hK
  generalize W'.setCell ⟨bR, 1, none⟩ (.int .u64 (l2 : Int)) = W2 at *
  clear fR cR
  have cA := hK.h3.cell (Q4_3 a b c d)
  have cE := hK.h2.cell (Q4_3 e0 e1 e2 e3)
  go_wp2_with fail
  refine (step_any d f e3 h2 hd hf he3 hh2 _).mono ?_
  rintro r W' ⟨⟨l3, h3, rfl, hl3, hh3, s3⟩, rfl⟩
  have Hend : Hid _ := row_sum S0.out S1.out S2.out s3
  clear s3 cA cE
  have cR := hK.h1.cell (Q4_2 l1 l2 0 0)
  have cR' := hK.h1.cell (Q4_3 l1 l2 0 0)
  have fR := hK.h1.frozen 2
  have fR' := hK.h1.frozen 3
  go_upto_region 5 with fail
  have hK := Kp.setCell (i := 2) (v := .int .u64 (l3 : Int)) hK (by simp; omega) hleR
  rw [Q4_set2] at hK
  have hK := Kp.setCell (i := 3) (v := .int .u64 (h3 : Int)) hK (by simp; omega) hleR
  rw [Q4_set3] at hK
  clear fR cR fR' cR'
  generalize (W'.setCell ⟨bR, 2, none⟩ (.int .u64 (l3 : Int))).setCell ⟨bR, 3, none⟩ (.int .u64 (h3 : Int)) = W3 at *
  refine wp_region_lv 54 (fun _ => [(bR, Q4 l1 l2 l3 h3, 131), (bE, Q4 e0 e1 e2 e3, 131), (bA, Q4 a b c d, 131)]) [.v (.int .u64 (l0 : Int)), .v (.agg (Q4 l1 l2 l3 h3)), .v (.int .u64 (l0 : Int)), .o] hK (by kernel_rfl) (by kernel_rfl) (by kernel_rfl) (by rfl) ?_ ?_
  · exact .c (.p1 6 (.int .u64 (l0 : Int))) <| .c (.ld bR (fun _ => .head _) Tryz.underlying131 rfl (Q4_info _ _ _ _)) <| .c (.p1 52 (.int .u64 (l0 : Int))) <| .c (.sk bR (.hc (fun _ => rfl) (fun _ => rfl) (fun _ => by simp; omega)) hleR (Q4_info _ _ _ _) (Q4_one _ _ _ _)) .nil
  · intro _ wq hJ _
    have hKq := hJ.1
    simp only [putL, Lv.val, Act.put, List.setIfInBounds_toArray, List.set_cons_succ, List.set_cons_zero]
    go_wp2_with fail
    exact bodyPost_ret (results_tmp_own Tryz.results123 _ _ bR (Q4 l1 l2 l3 h3) _ (by rfl) hKq.h1 Tryz.underlying131 rfl (Q4_info _ _ _ _)) rfl ⟨⟨l0, l1, l2, l3, h3, rfl, hl0, hl1, hl2, hl3, hh3, Hend.out⟩, hKq.2⟩
end Go.Proofs.YtgibllaifnnfkaaGreatDoor
namespace Go.Proofs.YtgibllaifnnfkaaGreatDoor
open Go.RowKit
def fold2 (t : Nat) : Nat := (t % R256 + 38 * (t / R256)) % R256 + 38 * ((t % R256 + 38 * (t / R256)) / R256)
def tmul (x y : Nat) : Nat := fold2 (x * y % R256 + 38 * (x * y / R256))
theorem R256_pos : 0 < R256 := by decide
theorem v4_lt {a b c d : Nat} (ha : a < 18446744073709551616) (hb : b < 18446744073709551616) (hc : c < 18446744073709551616) (hd : d < 18446744073709551616) : v4 a b c d < R256 := by
  unfold v4 R256; omega
theorem v4_zero : v4 0 0 0 0 = 0 := rfl
theorem Q4_num {a b c d n : Nat} (ha : a < 18446744073709551616) (hb : b < 18446744073709551616) (hc : c < 18446744073709551616) (hd : d < 18446744073709551616) (hn : v4 a b c d = n) : Q4 a b c d = numA n := by
  have h0 : dig n 0 = a := by rw [← hn]; unfold dig v4; rw [Nat.pow_zero]; omega
  have h1 : dig n 1 = b := by rw [← hn]; unfold dig v4; rw [Nat.pow_one]; omega
  have h2 : dig n 2 = c := by rw [← hn]; unfold dig v4; rw [show (18446744073709551616 : Nat) ^ 2 = 340282366920938463463374607431768211456 from rfl]; omega
  have h3 : dig n 3 = d := by rw [← hn]; unfold dig v4; rw [show (18446744073709551616 : Nat) ^ 3 = 6277101735386680763835789423207666416102355444464034512896 from rfl]; omega
  unfold numA A4 Q4
  rw [h0, h1, h2, h3]
theorem numA_Q4 (n : Nat) : numA n = Q4 (dig n 0) (dig n 1) (dig n 2) (dig n 3) := rfl
theorem v4_dig {n : Nat} (h : n < R256) : v4 (dig n 0) (dig n 1) (dig n 2) (dig n 3) = n := by
  unfold R256 at h
  unfold dig v4
  rw [Nat.pow_zero, Nat.pow_one, show (18446744073709551616 : Nat) ^ 2 = 340282366920938463463374607431768211456 from rfl, show (18446744073709551616 : Nat) ^ 3 = 6277101735386680763835789423207666416102355444464034512896 from rfl]
  omega
theorem open4 {n : Nat} (h : n < R256) : ∃ a b c d, numA n = Q4 a b c d ∧ a < 18446744073709551616 ∧ b < 18446744073709551616 ∧ c < 18446744073709551616 ∧ d < 18446744073709551616 ∧ v4 a b c d = n :=
  ⟨_, _, _, _, numA_Q4 n, dig_lt _ _, dig_lt _ _, dig_lt _ _, dig_lt _ _, v4_dig h⟩
theorem fold_first {low high l ra rb rc rd R t : Nat} (hR : R256 = R) (hl : l < 18446744073709551616) (hra : ra < 18446744073709551616) (hrb : rb < 18446744073709551616) (hrc : rc < 18446744073709551616) (ht : low + 38 * high = t)
    (e : high * 38 + low = l + 18446744073709551616 * v4 ra rb rc rd) : v4 l ra rb rc = t % R ∧ rd = t / R := by
  have h1 := v4_lt hl hra hrb hrc
  have h2 : t = v4 l ra rb rc + R * rd := by
    rw [← hR]; unfold v4 R256; unfold v4 at e; omega
  rw [hR] at h1
  rw [h2, Nat.add_mul_mod_self_left, Nat.mod_eq_of_lt h1, Nat.add_mul_div_left _ _ (by omega), Nat.div_eq_of_lt h1, Nat.zero_add]
  exact ⟨rfl, rfl⟩
theorem divmod_of {u n c R : Nat} (hn : n < R) (e : u = n + R * c) : n = u % R ∧ c = u / R := by
  rw [e, Nat.add_mul_mod_self_left, Nat.mod_eq_of_lt hn, Nat.add_mul_div_left _ _ (by omega), Nat.div_eq_of_lt hn, Nat.zero_add]
  exact ⟨rfl, rfl⟩
theorem fold_top_le {low high : Nat} (hl : low < R256) (hh : high < R256) : (low + 38 * high) / R256 ≤ 38 := by
  unfold R256 at *; omega
theorem fold_small {t : Nat} (h : t / R256 ≤ 38) : fold2 t < R256 ∧ (t % R256 + 38 * (t / R256)) / R256 ≤ 1 := by
  unfold fold2
  have h1 := Nat.mod_lt t R256_pos
  generalize t % R256 = a at *
  generalize t / R256 = b at *
  unfold R256 at *
  omega
theorem prod_top {x y : Nat} (hx : x < R256) (hy : y < R256) : x * y / R256 < R256 := by
  rcases Nat.eq_zero_or_pos y with h | h
  · rw [h, Nat.mul_zero, Nat.zero_div]; exact R256_pos
  · refine Nat.div_lt_of_lt_mul ?_
    exact Nat.lt_of_lt_of_le (Nat.mul_lt_mul_of_pos_right hx h) (Nat.mul_le_mul_left _ (Nat.le_of_lt hy))
theorem tmul_lt {x y : Nat} (hx : x < R256) (hy : y < R256) : tmul x y < R256 :=
  (fold_small (fold_top_le (Nat.mod_lt _ R256_pos) (prod_top hx hy))).1
theorem down_mod {a b R : Nat} (hR : R256 = R) : (a + 38 * b) % pp = (a + R * b) % pp := by
  rw [← hR]; unfold R256 pp; omega
theorem fold2_mod (t : Nat) : fold2 t % pp = t % pp := by
  unfold fold2
  rw [down_mod rfl, Nat.mod_add_div, down_mod rfl, Nat.mod_add_div]
theorem tmul_mod (x y : Nat) : tmul x y % pp = x * y % pp := by
  unfold tmul
  rw [fold2_mod, down_mod rfl, Nat.mod_add_div]
set_option maxRecDepth 100000 in
set_option maxHeartbeats 8000000 in
theorem folded_any {low high t : Nat} (hl : low < R256) (hh : high < R256) (ht : low + 38 * high = t) (w : World) :
    Calls Tryz.prog 124 #[.agg (numA low), .agg (numA high)] w fun r w' => r = .returned (.agg (numA (fold2 t))) ∧ Below w.heap.size w w' := by
  have hz := (zero_of_info zeroFN).1
  obtain ⟨R, HR⟩ : ∃ R, Hid (R256 = R) := ⟨_, rfl⟩
  have Ht38 : Hid (t / R ≤ 38) := by rw [← HR.out, ← ht]; exact fold_top_le hl hh
  have Hsm : Hid (fold2 t < R ∧ (t % R + 38 * (t / R)) / R ≤ 1) := by
    have := Ht38.out; rw [← HR.out] at *; exact fold_small this
  have Hf2 : Hid (fold2 t = (t % R + 38 * (t / R)) % R + 38 * ((t % R + 38 * (t / R)) / R)) := by rw [← HR.out]; rfl
  have Ht := show Hid _ from ht
  clear ht
  obtain ⟨a, b, c, d, eL, ha, hb, hc, hd, vL⟩ := open4 hl
  obtain ⟨e, f, g, h, eH, he, hf, hg, hh', vH⟩ := open4 hh
  have VL := show Hid _ from vL
  have VH := show Hid _ from vH
  rw [eL, eH]
  clear vL vH eL eH
  go_enter Tryz.func124, Tryz.ntmps124
  go_upto_region 1 with fail
  have hK := (((Kp.nil w).alloc (Q4 a b c d) 131).alloc (Q4 e f g h) 131).alloc (Q4 0 0 0 0) 131
  rw [World.size_alloc, World.size_alloc] at hK
  rw [Q4_zero]
  generalize ((w.alloc (.cells (Q4 a b c d) 131)).alloc (.cells (Q4 e f g h) 131)).alloc (.cells (Q4 0 0 0 0) 131) = W at *
  obtain ⟨bL, H1⟩ : ∃ bL, Hid (w.heap.size = bL) := ⟨_, rfl⟩
  obtain ⟨bH, H2⟩ : ∃ bH, Hid (bL + 1 = bH) := ⟨_, rfl⟩
  obtain ⟨bR, H3⟩ : ∃ bR, Hid (bH + 1 = bR) := ⟨_, rfl⟩
  have hleR : w.heap.size ≤ bR := by have := H1.out; have := H2.out; have := H3.out; omega
  rw [H1.out, H2.out, H3.out] at hK ⊢
  go_wp2_with (first
    | refine wpList_load_own (by rfl) 131 (.tmp 3) (by rfl) bH (by rfl) (Q4 e f g h) _ hK.h2 Tryz.underlying131 (by rfl) (Q4_info _ _ _ _) ?_
    | refine wpList_load_own (by rfl) 131 (.tmp 2) (by rfl) bL (by rfl) (Q4 a b c d) _ hK.h3 Tryz.underlying131 (by rfl) (Q4_info _ _ _ _) ?_)
  refine (row_any e f g h 38 a b c d he hf hg hh' (by decide) ha hb hc hd W).mono ?_
  rintro r W1 ⟨⟨l, ra, rb, rc, rd, rfl, hl0, hra, hrb, hrc, hrd, er⟩, bw1⟩
  rw [VH.out, VL.out] at er
  have Hfirst : Hid _ := fold_first HR.out hl0 hra hrb hrc Ht.out er
  clear er
  have hK := hK.below bw1
  go_upto_region 2 with (refine wpList_store_new (by rfl) 131 (.tmp 6) (.tmp 14) (by rfl) _ (Q4 ra rb rc rd) (by rfl) (by rfl) (Q4_info _ _ _ _) (Q4_sizes 0 0 0 0 _ _ _ _) (Q4_one _ _ _ _) (by rfl) ?_)
  have hK := hK.alloc (Q4 ra rb rc rd) 131
  generalize W1.alloc (.cells (Q4 ra rb rc rd) 131) = W2 at *
  obtain ⟨bS, H4⟩ : ∃ bS, Hid (W1.heap.size = bS) := ⟨_, rfl⟩
  rw [H4.out] at hK ⊢
  have hrd38 : rd ≤ 38 := by rw [Hfirst.out.2]; exact Ht38.out
  have hw : IntKind.u64.wrap (38 * (rd : Int)) = ((38 * rd : Nat) : Int) := by
    rw [show 38 * (rd : Int) = ((38 * rd : Nat) : Int) by omega]; exact wrap_small _ (by omega)
  have c0 := hK.h1.cell (Q4_0 ra rb rc rd)
  have c1 := hK.h1.cell (Q4_1 ra rb rc rd)
  have c2 := hK.h1.cell (Q4_2 ra rb rc rd)
  have c3 := hK.h1.cell (Q4_3 ra rb rc rd)
  go_wp2_with fail
  refine (more_any l ra rb rc (38 * rd) hl0 hra hrb hrc (by omega) W2).mono ?_
  rintro r W3 ⟨⟨p0, p1, p2, p3, k, rfl, hp0, hp1, hp2, hp3, hk, em⟩, bw3⟩
  rw [HR.out] at em
  have hpR : v4 p0 p1 p2 p3 < R := by rw [← HR.out]; exact v4_lt hp0 hp1 hp2 hp3
  have Hsec : Hid (v4 p0 p1 p2 p3 = (t % R + 38 * (t / R)) % R ∧ k = (t % R + 38 * (t / R)) / R) := by
    have h := Hfirst.out
    rw [h.1, h.2] at em
    exact divmod_of hpR em
  clear em c0 c1 c2 c3 hw
  have hK := hK.below bw3
  have nR := hK.h2.lt
  go_upto_region 3 with (refine wpList_store_new (by rfl) 131 (.tmp 7) (.tmp 28) (by rfl) _ (Q4 p0 p1 p2 p3) (by rfl) (by rfl) (Q4_info _ _ _ _) (Q4_sizes 0 0 0 0 _ _ _ _) (Q4_one _ _ _ _) (by rfl) ?_)
  have hK := hK.alloc (Q4 p0 p1 p2 p3) 131
  have hleN := hK.h1.lt
  have hleW := hK.2.size
  generalize W3.alloc (.cells (Q4 p0 p1 p2 p3) 131) = W4 at *
  have hN3 : w.heap.size ≤ W3.heap.size := by have := H1.out; have := H2.out; have := H3.out; omega
  clear hleN hleW
  obtain ⟨bN, H5⟩ : ∃ bN, Hid (W3.heap.size = bN) := ⟨_, rfl⟩
  rw [H5.out] at hK nR hN3 ⊢
  have nR : bR ≠ bN := by omega
  have hK : Kp [(bN, Q4 p0 p1 p2 p3, 131), (bR, Q4 0 0 0 0, 131)] w W4 := hK.sub (by simp)
  have hw : IntKind.u64.wrap (38 * (k : Int)) = ((38 * k : Nat) : Int) := by
    rw [show 38 * (k : Int) = ((38 * k : Nat) : Int) by omega]; exact wrap_small _ (by omega)
  go_wp2_with (refine wpList_load_own (by rfl) 131 (.tmp 7) (by rfl) bN (by rfl) (Q4 p0 p1 p2 p3) _ hK.h1 Tryz.underlying131 (by rfl) (Q4_info _ _ _ _) ?_)
  refine (more_any p0 p1 p2 p3 (38 * k) hp0 hp1 hp2 hp3 (by omega) W4).mono ?_
  rintro r W5 ⟨⟨q0, q1, q2, q3, j, rfl, hq0, hq1, hq2, hq3, hj, em⟩, bw5⟩
  have Hq : Hid (Q4 q0 q1 q2 q3 = numA (fold2 t)) := by
    refine Q4_num hq0 hq1 hq2 hq3 ?_
    rw [HR.out] at em
    have h1 := Hsec.out
    have h2 := Hf2.out
    have h3 := Hsm.out.1
    rw [← h1.1, ← h1.2] at h2
    rw [h2, em] at h3
    rw [h2, em]
    rcases Nat.eq_zero_or_pos j with h0 | h0
    · rw [h0, Nat.mul_zero, Nat.add_zero]
    · have : j = 1 := by omega
      rw [this, Nat.mul_one] at h3
      omega
  clear em hw
  have hK := hK.below bw5
  go_upto_region 4 with (refine wpList_store_own (by rfl) 131 (.tmp 7) (.tmp 35) (by rfl) bN 0 (Q4 q0 q1 q2 q3) (by rfl) (by rfl) hK.h1 (Q4_le _ _ _ _ _ _ _ _) (Q4_info _ _ _ _) (Q4_one _ _ _ _) (by rfl) ?_)
  have hK := Kp.set (A' := Q4 q0 q1 q2 q3) hK (by simp; omega) hN3 rfl
  generalize W5.setCells bN 0 (Q4 q0 q1 q2 q3).toList = W6 at *
  go_wp2_with (first
    | refine wpList_load_own (by rfl) 131 (.tmp 7) (by rfl) bN (by rfl) (Q4 q0 q1 q2 q3) _ hK.h1 Tryz.underlying131 (by rfl) (Q4_info _ _ _ _) ?_
    | refine wpList_store_own (by rfl) 131 (.tmp 4) (.tmp 37) (by rfl) bR 0 (Q4 q0 q1 q2 q3) (by rfl) (by rfl) hK.h2 (Q4_le _ _ _ _ _ _ _ _) (Q4_info _ _ _ _) (Q4_one _ _ _ _) (by rfl) ?_)
  exact bodyPost_ret (results_own Tryz.results124 _ _ bR (Q4 q0 q1 q2 q3) _ (by rfl) (own_setCells hK.h2 (Q4_sizes _ _ _ _ _ _ _ _)) Tryz.underlying131 rfl (Q4_info _ _ _ _)) rfl ⟨by rw [Hq.out], Below.setCells _ _ _ _ hleR hK.2⟩
end Go.Proofs.YtgibllaifnnfkaaGreatDoor
namespace Go.Proofs.YtgibllaifnnfkaaGreatDoor
open Go.RowKit
theorem prod4 {x a b c d l0 l1 l2 l3 r0 r1 r2 r3 y R : Nat} (hR : R256 = R) (s0 : x * a + 0 = l0 + 18446744073709551616 * r0) (s1 : x * b + r0 = l1 + 18446744073709551616 * r1) (s2 : x * c + r1 = l2 + 18446744073709551616 * r2) (s3 : x * d + r2 = l3 + 18446744073709551616 * r3) (hy : v4 a b c d = y) :
    x * y = v4 l0 l1 l2 l3 + R * r3 := by
  rw [← hy, ← hR]
  unfold v4 R256
  rw [Nat.mul_add, Nat.mul_add, Nat.mul_add, Nat.mul_left_comm, Nat.mul_left_comm x, Nat.mul_left_comm x]
  generalize x * a = A at *
  generalize x * b = B at *
  generalize x * c = C at *
  generalize x * d = D at *
  omega
set_option maxRecDepth 100000 in
set_option maxHeartbeats 8000000 in
theorem ptimes_any (x y : Nat) (hx : x < R256) (hy : y < R256) (w : World) :
    Calls Tryz.prog 110 #[.agg (numA x), .agg (numA y)] w fun r w' => r = .returned (.agg (numA (tmul x y))) ∧ Below w.heap.size w w' := by
  have hz := (zero_of_info zeroFN).1
  obtain ⟨R, HR⟩ : ∃ R, Hid (R256 = R) := ⟨_, rfl⟩
  have Htm : Hid (tmul x y = fold2 (x * y % R + 38 * (x * y / R))) := by rw [← HR.out]; rfl
  obtain ⟨a, b, c, d, eX, ha, hb, hc, hd, vX⟩ := open4 hx
  obtain ⟨e, f, g, h, eY, he, hf, hg, hh, vY⟩ := open4 hy
  have VX := show Hid _ from vX
  have VY := show Hid _ from vY
  rw [eX, eY]
  clear vX vY eX eY
  go_enter Tryz.func110, Tryz.ntmps110
  go_upto_region 1 with fail
  have hK := (((Kp.nil w).alloc (Q4 a b c d) 131).alloc (Q4 e f g h) 131).alloc (Q4 0 0 0 0) 131
  rw [World.size_alloc, World.size_alloc] at hK
  rw [Q4_zero]
  generalize ((w.alloc (.cells (Q4 a b c d) 131)).alloc (.cells (Q4 e f g h) 131)).alloc (.cells (Q4 0 0 0 0) 131) = W at *
  obtain ⟨bX, H1⟩ : ∃ bX, Hid (w.heap.size = bX) := ⟨_, rfl⟩
  obtain ⟨bY, H2⟩ : ∃ bY, Hid (bX + 1 = bY) := ⟨_, rfl⟩
  obtain ⟨bR, H3⟩ : ∃ bR, Hid (bY + 1 = bR) := ⟨_, rfl⟩
  have hleR : w.heap.size ≤ bR := by have := H1.out; have := H2.out; have := H3.out; omega
  rw [H1.out, H2.out, H3.out] at hK ⊢
  have cY := hK.h2.cell (Q4_0 e f g h)
  go_wp2_with (refine wpList_load_own (by rfl) 131 (.tmp 2) (by rfl) bX (by rfl) (Q4 a b c d) _ hK.h3 Tryz.underlying131 (by rfl) (Q4_info _ _ _ _) ?_)
  rw [Q4_zero]
  refine (row_any a b c d e 0 0 0 0 ha hb hc hd he (by decide) (by decide) (by decide) (by decide) W).mono ?_
  rintro r W1 ⟨⟨l0, r0, r1, r2, r3, rfl, hl0, hr0, hr1, hr2, hr3, er⟩, bw⟩
  rw [VX.out, v4_zero] at er
  have S0 : Hid _ := er
  clear er cY
  have hK := hK.below bw
  go_upto_region 2 with (refine wpList_store_new (by rfl) 131 (.tmp 6) (.tmp 17) (by rfl) _ (Q4 r0 r1 r2 r3) (by rfl) (by rfl) (Q4_info _ _ _ _) (Q4_sizes 0 0 0 0 _ _ _ _) (Q4_one _ _ _ _) (by rfl) ?_)
  have nX := hK.h3.lt
  have nY := hK.h2.lt
  have nR := hK.h1.lt
  have hK := hK.alloc (Q4 r0 r1 r2 r3) 131
  generalize W1.alloc (.cells (Q4 r0 r1 r2 r3) 131) = W2 at *
  obtain ⟨bS, H4⟩ : ∃ bS, Hid (W1.heap.size = bS) := ⟨_, rfl⟩
  rw [H4.out] at hK nX nY nR ⊢
  have hleS : w.heap.size ≤ bS := by omega
  have nX : bX ≠ bS := by omega
  have nY : bY ≠ bS := by omega
  have nR : bR ≠ bS := by omega
  have cY := hK.h3.cell (Q4_1 e f g h)
  go_wp2_with (first
    | refine wpList_load_own (by rfl) 131 (.tmp 2) (by rfl) bX (by rfl) (Q4 a b c d) _ hK.h4 Tryz.underlying131 (by rfl) (Q4_info _ _ _ _) ?_
    | refine wpList_load_own (by rfl) 131 (.tmp 6) (by rfl) bS (by rfl) (Q4 r0 r1 r2 r3) _ hK.h1 Tryz.underlying131 (by rfl) (Q4_info _ _ _ _) ?_)
  refine (row_any a b c d f r0 r1 r2 r3 ha hb hc hd hf hr0 hr1 hr2 hr3 W2).mono ?_
  rintro r W3 ⟨⟨l1, q0, q1, q2, q3, rfl, hl1, hq0, hq1, hq2, hq3, er⟩, bw⟩
  rw [VX.out] at er
  have S1 : Hid _ := er
  clear er cY
  have hK := hK.below bw
  go_upto_region 3 with (refine wpList_store_own (by rfl) 131 (.tmp 6) (.tmp 25) (by rfl) bS 0 (Q4 q0 q1 q2 q3) (by rfl) (by rfl) hK.h1 (Q4_le _ _ _ _ _ _ _ _) (Q4_info _ _ _ _) (Q4_one _ _ _ _) (by rfl) ?_)
  have hK := Kp.set (A' := Q4 q0 q1 q2 q3) hK (by simp; omega) hleS rfl
  generalize W3.setCells bS 0 (Q4 q0 q1 q2 q3).toList = W4 at *
  have cY := hK.h3.cell (Q4_2 e f g h)
  go_wp2_with (first
    | refine wpList_load_own (by rfl) 131 (.tmp 2) (by rfl) bX (by rfl) (Q4 a b c d) _ hK.h4 Tryz.underlying131 (by rfl) (Q4_info _ _ _ _) ?_
    | refine wpList_load_own (by rfl) 131 (.tmp 6) (by rfl) bS (by rfl) (Q4 q0 q1 q2 q3) _ hK.h1 Tryz.underlying131 (by rfl) (Q4_info _ _ _ _) ?_)
  refine (row_any a b c d g q0 q1 q2 q3 ha hb hc hd hg hq0 hq1 hq2 hq3 W4).mono ?_
  rintro r W5 ⟨⟨l2, p0, p1, p2, p3, rfl, hl2, hp0, hp1, hp2, hp3, er⟩, bw⟩
  rw [VX.out] at er
  have S2 : Hid _ := er
  clear er cY
  have hK := hK.below bw
  go_upto_region 4 with (refine wpList_store_own (by rfl) 131 (.tmp 6) (.tmp 33) (by rfl) bS 0 (Q4 p0 p1 p2 p3) (by rfl) (by rfl) hK.h1 (Q4_le _ _ _ _ _ _ _ _) (Q4_info _ _ _ _) (Q4_one _ _ _ _) (by rfl) ?_)
  have hK := Kp.set (A' := Q4 p0 p1 p2 p3) hK (by simp; omega) hleS rfl
  generalize W5.setCells bS 0 (Q4 p0 p1 p2 p3).toList = W6 at *
  have cY := hK.h3.cell (Q4_3 e f g h)
  go_wp2_with (first
    | refine wpList_load_own (by rfl) 131 (.tmp 2) (by rfl) bX (by rfl) (Q4 a b c d) _ hK.h4 Tryz.underlying131 (by rfl) (Q4_info _ _ _ _) ?_
    | refine wpList_load_own (by rfl) 131 (.tmp 6) (by rfl) bS (by rfl) (Q4 p0 p1 p2 p3) _ hK.h1 Tryz.underlying131 (by rfl) (Q4_info _ _ _ _) ?_)
  refine (row_any a b c d h p0 p1 p2 p3 ha hb hc hd hh hp0 hp1 hp2 hp3 W6).mono ?_
  rintro r W7 ⟨⟨l3, o0, o1, o2, o3, rfl, hl3, ho0, ho1, ho2, ho3, er⟩, bw⟩
  rw [VX.out] at er
  have S3 : Hid _ := er
  clear er cY
  have hK := hK.below bw
  go_upto_region 5 with (refine wpList_store_own (by rfl) 131 (.tmp 6) (.tmp 41) (by rfl) bS 0 (Q4 o0 o1 o2 o3) (by rfl) (by rfl) hK.h1 (Q4_le _ _ _ _ _ _ _ _) (Q4_info _ _ _ _) (Q4_one _ _ _ _) (by rfl) ?_)
  have hK := Kp.set (A' := Q4 o0 o1 o2 o3) hK (by simp; omega) hleS rfl
  generalize W7.setCells bS 0 (Q4 o0 o1 o2 o3).toList = W8 at *
  have hK := hK.sub (l' := [(bS, Q4 o0 o1 o2 o3, 131), (bR, Q4 0 0 0 0, 131)]) (by simp)
  have Hprod : Hid _ := prod4 HR.out S0.out S1.out S2.out S3.out VY.out
  obtain ⟨lo, Hlo⟩ : ∃ lo, Hid (v4 l0 l1 l2 l3 = lo) := ⟨_, rfl⟩
  obtain ⟨hi, Hhi⟩ : ∃ hi, Hid (v4 o0 o1 o2 o3 = hi) := ⟨_, rfl⟩
  have hloR : lo < R256 := by rw [← Hlo.out]; exact v4_lt hl0 hl1 hl2 hl3
  have hhiR : hi < R256 := by rw [← Hhi.out]; exact v4_lt ho0 ho1 ho2 ho3
  have Hfin : Hid (fold2 (lo + 38 * hi) = tmul x y) := by
    have h1 := Hprod.out
    rw [Hlo.out, Hhi.out] at h1
    rw [HR.out] at hloR
    have h2 := divmod_of hloR h1
    rw [Htm.out, ← h2.1, ← h2.2]
    rfl
  have Qlo : Hid _ := Q4_num hl0 hl1 hl2 hl3 Hlo.out
  have Qhi : Hid _ := Q4_num ho0 ho1 ho2 ho3 Hhi.out
  go_wp2_with (refine wpList_load_own (by rfl) 131 (.tmp 6) (by rfl) bS (by rfl) (Q4 o0 o1 o2 o3) _ hK.h1 Tryz.underlying131 (by rfl) (Q4_info _ _ _ _) ?_)
  rw [show (#[.int .u64 (l0 : Int), .int .u64 (l1 : Int), .int .u64 (l2 : Int), .int .u64 (l3 : Int)] : Array Value) = Q4 l0 l1 l2 l3 from rfl, Qlo.out, Qhi.out]
  refine (folded_any hloR hhiR rfl W8).mono ?_
  rintro r W9 ⟨rfl, bw⟩
  rw [Hfin.out]
  have hK := hK.below bw
  go_wp2_with (refine wpList_store_own (by rfl) 131 (.tmp 4) (.tmp 48) (by rfl) bR 0 (numA (tmul x y)) (by rfl) (by rfl) hK.h2 (Nat.le_refl _) infoFN (numA_one _) (by rfl) ?_)
  exact bodyPost_ret (results_own Tryz.results110 _ _ bR (numA (tmul x y)) _ (by rfl) (own_setCells hK.h2 rfl) Tryz.underlying131 rfl infoFN) rfl ⟨rfl, Below.setCells _ _ _ _ hleR hK.2⟩
end Go.Proofs.YtgibllaifnnfkaaGreatDoor
namespace Go.Proofs.YtgibllaifnnfkaaGreatDoor
open Go.RowKit
def TP (w : World) : Prop := 9 < w.heap.size ∧ w.cell? ⟨9, 0, none⟩ = some (.int .u64 18446744073709551597) ∧ w.cell? ⟨9, 1, none⟩ = some (.int .u64 18446744073709551615) ∧ w.cell? ⟨9, 2, none⟩ = some (.int .u64 18446744073709551615) ∧ w.cell? ⟨9, 3, none⟩ = some (.int .u64 9223372036854775807)
theorem TP.keep {w w' : World} (h : TP w) (hB : Below w.heap.size w w') : TP w' := by
  obtain ⟨h0, h1, h2, h3, h4⟩ := h
  have hc := (bcell hB).1
  exact ⟨Nat.lt_of_lt_of_le h0 hB.size, by rw [hc _ _ h0]; exact h1, by rw [hc _ _ h0]; exact h2, by rw [hc _ _ h0]; exact h3, by rw [hc _ _ h0]; exact h4⟩
theorem TP.kp {w w' : World} {l : List (Nat × Array Value × TypeId)} (h : TP w) (hK : Kp l w w') : TP w' := h.keep hK.2
theorem and63 (x : Nat) (h : x < 18446744073709551616) : bits .and .u64 (x : Int) 9223372036854775807 = ((x % 9223372036854775808 : Nat) : Int) := by
  have := u64_and_nat x 9223372036854775807 h (by decide)
  have e := Nat.and_two_pow_sub_one_eq_mod x 63
  rw [show (9223372036854775807 : Nat) = 2 ^ 63 - 1 from rfl, e] at this
  exact this
theorem shr63 (x : Nat) : (x : Int) / 9223372036854775808 = ((x / 9223372036854775808 : Nat) : Int) := by omega
theorem least_first {a b c d a' b' c' d' k n : Nat} (ha : a < 18446744073709551616) (hb : b < 18446744073709551616) (hc : c < 18446744073709551616) (hd : d < 18446744073709551616) (hn : v4 a b c d = n)
    (ha' : a' < 18446744073709551616) (hb' : b' < 18446744073709551616) (hc' : c' < 18446744073709551616) (hd' : d' < 18446744073709551616) (e : v4 a b c (d % 9223372036854775808) + 19 * (d / 9223372036854775808) = v4 a' b' c' d' + R256 * k) :
    v4 a' b' c' d' < 57896044618658097711785492504343953926634992332820282019728792003956564819968 + 19 ∧ v4 a' b' c' d' % pp = n % pp := by
  have hk : k = 0 := by unfold v4 R256 at e; omega
  rw [hk, Nat.mul_zero, Nat.add_zero] at e
  have h1 : v4 a b c d = v4 a b c (d % 9223372036854775808) + 57896044618658097711785492504343953926634992332820282019728792003956564819968 * (d / 9223372036854775808) := by unfold v4; omega
  refine ⟨by rw [← e]; unfold v4; omega, ?_⟩
  rw [← e, ← hn, h1]
  generalize d / 9223372036854775808 = q
  generalize v4 a b c (d % 9223372036854775808) = r
  unfold pp; omega
theorem least_second {a b c d m k n : Nat} (ha : a < 18446744073709551616) (hb : b < 18446744073709551616) (hc : c < 18446744073709551616) (hd : d < 18446744073709551616)
    (hm : m < 57896044618658097711785492504343953926634992332820282019728792003956564819968 + 19) (hn : m % pp = n % pp) (e : m + 19 = v4 a b c d + R256 * k) :
    (d / 9223372036854775808 = 0 → m = n % pp) ∧ (d / 9223372036854775808 ≠ 0 → v4 a b c (d % 9223372036854775808) = n % pp) := by
  have hk : k = 0 := by unfold v4 R256 at e; omega
  rw [hk, Nat.mul_zero, Nat.add_zero] at e
  have hp : pp = 57896044618658097711785492504343953926634992332820282019728792003956564819949 := rfl
  refine ⟨fun h => ?_, fun h => ?_⟩
  · rw [← hn, Nat.mod_eq_of_lt]
    rw [hp]; unfold v4 at e; omega
  · have h1 : v4 a b c (d % 9223372036854775808) + 57896044618658097711785492504343953926634992332820282019728792003956564819968 = m + 19 := by rw [e]; unfold v4; omega
    rw [← hn]
    generalize v4 a b c (d % 9223372036854775808) = r at *
    rw [hp]
    omega
set_option maxRecDepth 100000 in
set_option maxHeartbeats 8000000 in
theorem least_any (n : Nat) (hn : n < R256) (w : World) (hT : TP w) :
    Calls Tryz.prog 120 #[.agg (numA n)] w fun r w' => r = .returned (.agg (numA (n % pp))) ∧ Below w.heap.size w w' := by
  have hz := (zero_of_info zeroFN).1
  obtain ⟨a, b, c, d, eN, ha, hb, hc, hd, vN⟩ := open4 hn
  have VN := show Hid _ from vN
  rw [eN]
  clear vN eN
  go_enter Tryz.func120, Tryz.ntmps120
  go_upto_region 1 with fail
  have hK := ((Kp.nil w).alloc (Q4 a b c d) 131).alloc (Q4 0 0 0 0) 131
  rw [World.size_alloc] at hK
  rw [Q4_zero]
  generalize (w.alloc (.cells (Q4 a b c d) 131)).alloc (.cells (Q4 0 0 0 0) 131) = W at *
  obtain ⟨bN, H1⟩ : ∃ bN, Hid (w.heap.size = bN) := ⟨_, rfl⟩
  obtain ⟨bR, H2⟩ : ∃ bR, Hid (bN + 1 = bR) := ⟨_, rfl⟩
  have hleN : w.heap.size ≤ bN := Nat.le_of_eq H1.out
  have hleR : w.heap.size ≤ bR := by have := H1.out; have := H2.out; omega
  have n1 : bR ≠ bN := by have := H2.out; omega
  have nG : bN ≠ 9 := by have := hT.1; omega
  rw [H1.out, H2.out] at hK ⊢
  have hK : Kp [(bN, Q4 a b c d, 131), (bR, Q4 0 0 0 0, 131)] w W := hK.sub (by simp)
  have cD := hK.h1.cell (Q4_3 a b c d)
  have fD := hK.h1.frozen 3
  have cP := (hT.kp hK).2.2.2.2
  have hs := shr63 d
  have hm := and63 d hd
  obtain ⟨top, Htop⟩ : ∃ top, Hid (d / 9223372036854775808 = top) := ⟨_, rfl⟩
  obtain ⟨d1, Hd1⟩ : ∃ d1, Hid (d % 9223372036854775808 = d1) := ⟨_, rfl⟩
  rw [Htop.out] at hs
  rw [Hd1.out] at hm
  have htop : top ≤ 1 := by have := Htop.out; omega
  have hd1 : d1 < 18446744073709551616 := by have := Hd1.out; omega
  go_upto_region 3 with fail
  have hK := Kp.setCell (i := 3) (v := .int .u64 (d1 : Int)) hK (by simp; omega) hleN
  rw [Q4_set3] at hK
  generalize W.setCell ⟨bN, 3, none⟩ (.int .u64 (d1 : Int)) = W1 at *
  clear cD fD cP hs hm
  have hw : IntKind.u64.wrap (19 * (top : Int)) = ((19 * top : Nat) : Int) := by
    rw [show 19 * (top : Int) = ((19 * top : Nat) : Int) by omega]; exact wrap_small _ (by omega)
  go_wp2_with (refine wpList_load_own (by rfl) 131 (.tmp 1) (by rfl) bN (by rfl) (Q4 a b c d1) _ hK.h1 Tryz.underlying131 (by rfl) (Q4_info _ _ _ _) ?_)
  refine (more_any a b c d1 (19 * top) ha hb hc hd1 (by omega) W1).mono ?_
  rintro r W2 ⟨⟨p0, p1, p2, p3, k, rfl, hp0, hp1, hp2, hp3, hk, em⟩, bw⟩
  rw [← Hd1.out, ← Htop.out] at em
  have Hfst : Hid _ := least_first ha hb hc hd VN.out hp0 hp1 hp2 hp3 em
  clear em hw
  have hK := hK.below bw
  go_upto_region 4 with (refine wpList_store_own (by rfl) 131 (.tmp 1) (.tmp 20) (by rfl) bN 0 (Q4 p0 p1 p2 p3) (by rfl) (by rfl) hK.h1 (Q4_le _ _ _ _ _ _ _ _) (Q4_info _ _ _ _) (Q4_one _ _ _ _) (by rfl) ?_)
  have hK := Kp.set (A' := Q4 p0 p1 p2 p3) hK (by simp; omega) hleN rfl
  generalize W2.setCells bN 0 (Q4 p0 p1 p2 p3).toList = W3 at *
  go_wp2_with (refine wpList_load_own (by rfl) 131 (.tmp 1) (by rfl) bN (by rfl) (Q4 p0 p1 p2 p3) _ hK.h1 Tryz.underlying131 (by rfl) (Q4_info _ _ _ _) ?_)
  refine (more_any p0 p1 p2 p3 19 hp0 hp1 hp2 hp3 (by decide) W3).mono ?_
  rintro r W4 ⟨⟨q0, q1, q2, q3, j, rfl, hq0, hq1, hq2, hq3, hj, em⟩, bw⟩
  have Hsnd : Hid _ := least_second hq0 hq1 hq2 hq3 Hfst.out.1 Hfst.out.2 em
  clear em
  have hK := hK.below bw
  have nN := hK.h1.lt
  have nR := hK.h2.lt
  go_upto_region 5 with (refine wpList_store_new (by rfl) 131 (.tmp 4) (.tmp 25) (by rfl) _ (Q4 q0 q1 q2 q3) (by rfl) (by rfl) (Q4_info _ _ _ _) (Q4_sizes 0 0 0 0 _ _ _ _) (Q4_one _ _ _ _) (by rfl) ?_)
  have hK := hK.alloc (Q4 q0 q1 q2 q3) 131
  generalize W4.alloc (.cells (Q4 q0 q1 q2 q3) 131) = W5 at *
  obtain ⟨bA, H3⟩ : ∃ bA, Hid (W4.heap.size = bA) := ⟨_, rfl⟩
  rw [H3.out] at hK nN nR ⊢
  have hleA : w.heap.size ≤ bA := by omega
  have n2 : bR ≠ bA := by omega
  have n3 : bN ≠ bA := by omega
  clear nN nR
  have nG2 : bA ≠ 9 := by have := hT.1; omega
  have cD := hK.h1.cell (Q4_3 q0 q1 q2 q3)
  have fD := hK.h1.frozen 3
  have cP := (hT.kp hK).2.2.2.2
  have hs := shr63 q3
  have hm := and63 q3 hq3
  obtain ⟨up, Hup⟩ : ∃ up, Hid (q3 / 9223372036854775808 = up) := ⟨_, rfl⟩
  obtain ⟨d2, Hd2⟩ : ∃ d2, Hid (q3 % 9223372036854775808 = d2) := ⟨_, rfl⟩
  rw [Hup.out] at hs
  rw [Hd2.out] at hm
  have hd2 : d2 < 18446744073709551616 := by have := Hd2.out; omega
  have H2nd := Hsnd.out
  rw [Hup.out, Hd2.out] at H2nd
  have Hsnd := show Hid _ from H2nd
  clear H2nd
  by_cases hu : up = 0
  · have hui : (up : Int) = 0 := by omega
    have Hend : Hid (Q4 p0 p1 p2 p3 = numA (n % pp)) := Q4_num hp0 hp1 hp2 hp3 (Hsnd.out.1 hu)
    rw [hui] at hs
    go_wp2_with (first
      | refine wpList_load_own (by rfl) 131 (.tmp 1) (by rfl) bN (by rfl) (Q4 p0 p1 p2 p3) _ hK.h2 Tryz.underlying131 (by rfl) (Q4_info _ _ _ _) ?_
      | refine wpList_store_own (by rfl) 131 (.tmp 2) (.tmp 31) (by rfl) bR 0 (Q4 p0 p1 p2 p3) (by rfl) (by rfl) hK.h3 (Q4_le _ _ _ _ _ _ _ _) (Q4_info _ _ _ _) (Q4_one _ _ _ _) (by rfl) ?_)
    exact bodyPost_ret (results_own Tryz.results120 _ _ bR (Q4 p0 p1 p2 p3) _ (by rfl) (own_setCells hK.h3 (Q4_sizes _ _ _ _ _ _ _ _)) Tryz.underlying131 rfl (Q4_info _ _ _ _)) rfl ⟨by rw [Hend.out], Below.setCells _ _ _ _ hleR hK.2⟩
  · have hui : ¬ (up : Int) = 0 := by omega
    have Hend : Hid (Q4 q0 q1 q2 d2 = numA (n % pp)) := Q4_num hq0 hq1 hq2 hd2 (Hsnd.out.2 hu)
    go_upto_region 8 with fail
    have hK := Kp.setCell (i := 3) (v := .int .u64 (d2 : Int)) hK (by simp; omega) hleA
    rw [Q4_set3] at hK
    generalize W5.setCell ⟨bA, 3, none⟩ (.int .u64 (d2 : Int)) = W6 at *
    clear cD fD cP hs hm
    go_wp2_with (first
      | refine wpList_load_own (by rfl) 131 (.tmp 4) (by rfl) bA (by rfl) (Q4 q0 q1 q2 d2) _ hK.h1 Tryz.underlying131 (by rfl) (Q4_info _ _ _ _) ?_
      | refine wpList_store_own (by rfl) 131 (.tmp 2) (.tmp 38) (by rfl) bR 0 (Q4 q0 q1 q2 d2) (by rfl) (by rfl) hK.h3 (Q4_le _ _ _ _ _ _ _ _) (Q4_info _ _ _ _) (Q4_one _ _ _ _) (by rfl) ?_)
    exact bodyPost_ret (results_own Tryz.results120 _ _ bR (Q4 q0 q1 q2 d2) _ (by rfl) (own_setCells hK.h3 (Q4_sizes _ _ _ _ _ _ _ _)) Tryz.underlying131 rfl (Q4_info _ _ _ _)) rfl ⟨by rw [Hend.out], Below.setCells _ _ _ _ hleR hK.2⟩
end Go.Proofs.YtgibllaifnnfkaaGreatDoor
namespace Go.Proofs.YtgibllaifnnfkaaGreatDoor
open Go.RowKit
set_option maxRecDepth 100000 in
set_option maxHeartbeats 8000000 in
theorem fplus_any (x y : Nat) (hx : x < R256) (hy : y < R256) (hxy : x + y < R256) (w : World) :
    Calls Tryz.prog 119 #[.agg (numA x), .agg (numA y)] w fun r w' => r = .returned (.agg (numA (x + y))) ∧ Below w.heap.size w w' := by
  have hz := (zero_of_info zeroFN).1
  obtain ⟨a0, a1, a2, a3, eX, ha0, ha1, ha2, ha3, vX⟩ := open4 hx
  obtain ⟨b0, b1, b2, b3, eY, hb0, hb1, hb2, hb3, vY⟩ := open4 hy
  obtain ⟨s0, k0, r0, hs0, hk0, e0⟩ := add64_any a0 b0 0 ha0 hb0 (by omega)
  obtain ⟨s1, k1, r1, hs1, hk1, e1⟩ := add64_any a1 b1 k0 ha1 hb1 hk0
  obtain ⟨s2, k2, r2, hs2, hk2, e2⟩ := add64_any a2 b2 k1 ha2 hb2 hk1
  obtain ⟨s3, k3, r3, hs3, hk3, e3⟩ := add64_any a3 b3 k2 ha3 hb3 hk2
  have Hend : Hid (Q4 s0 s1 s2 s3 = numA (x + y)) := by
    refine Q4_num hs0 hs1 hs2 hs3 ?_
    rw [← vX, ← vY] at hxy ⊢
    unfold v4 R256 at *
    omega
  rw [eX, eY]
  clear e0 e1 e2 e3 vX vY eX eY
  have r0 : ∀ w, (callFunc 85 #[.int .u64 (a0 : Int), .int .u64 (b0 : Int), .int .u64 0]).run Tryz.prog w = .ok (.value (.tuple #[.int .u64 (s0 : Int), .int .u64 (k0 : Int)])) w := r0
  go_enter Tryz.func119, Tryz.ntmps119
  go_upto_region 1 with fail
  have hK := (((Kp.nil w).alloc (Q4 a0 a1 a2 a3) 131).alloc (Q4 b0 b1 b2 b3) 131).alloc (Q4 0 0 0 0) 131
  rw [World.size_alloc, World.size_alloc] at hK
  rw [Q4_zero]
  generalize ((w.alloc (.cells (Q4 a0 a1 a2 a3) 131)).alloc (.cells (Q4 b0 b1 b2 b3) 131)).alloc (.cells (Q4 0 0 0 0) 131) = W at *
  obtain ⟨bX, H1⟩ : ∃ bX, Hid (w.heap.size = bX) := ⟨_, rfl⟩
  obtain ⟨bY, H2⟩ : ∃ bY, Hid (bX + 1 = bY) := ⟨_, rfl⟩
  obtain ⟨bR, H3⟩ : ∃ bR, Hid (bY + 1 = bR) := ⟨_, rfl⟩
  have hleX : w.heap.size ≤ bX := Nat.le_of_eq H1.out
  have hleR : w.heap.size ≤ bR := by have := H1.out; have := H2.out; have := H3.out; omega
  have nY : bY ≠ bX := by have := H2.out; omega
  have nR : bR ≠ bX := by have := H2.out; have := H3.out; omega
  rw [H1.out, H2.out, H3.out] at hK ⊢
  have hK : Kp [(bX, Q4 a0 a1 a2 a3, 131), (bY, Q4 b0 b1 b2 b3, 131), (bR, Q4 0 0 0 0, 131)] w W := hK.sub (by simp)
  have cA := hK.h1.cell (Q4_0 a0 a1 a2 a3)
  have cB := hK.h2.cell (Q4_0 b0 b1 b2 b3)
  have fA := hK.h1.frozen 0
  go_upto_region 3 with fail
  have hK := Kp.setCell (i := 0) (v := .int .u64 (s0 : Int)) hK (by simp; omega) hleX
  rw [Q4_set0] at hK
  generalize W.setCell ⟨bX, 0, none⟩ (.int .u64 (s0 : Int)) = W0 at *
  clear cA fA cB r0
  have cA := hK.h1.cell (Q4_1 s0 a1 a2 a3)
  have cB := hK.h2.cell (Q4_1 b0 b1 b2 b3)
  have fA := hK.h1.frozen 1
  go_upto_region 4 with fail
  have hK := Kp.setCell (i := 1) (v := .int .u64 (s1 : Int)) hK (by simp; omega) hleX
  rw [Q4_set1] at hK
  generalize W0.setCell ⟨bX, 1, none⟩ (.int .u64 (s1 : Int)) = W01 at *
  clear cA fA cB r1
  have cA := hK.h1.cell (Q4_2 s0 s1 a2 a3)
  have cB := hK.h2.cell (Q4_2 b0 b1 b2 b3)
  have fA := hK.h1.frozen 2
  go_upto_region 5 with fail
  have hK := Kp.setCell (i := 2) (v := .int .u64 (s2 : Int)) hK (by simp; omega) hleX
  rw [Q4_set2] at hK
  generalize W01.setCell ⟨bX, 2, none⟩ (.int .u64 (s2 : Int)) = W012 at *
  clear cA fA cB r2
  have cA := hK.h1.cell (Q4_3 s0 s1 s2 a3)
  have cB := hK.h2.cell (Q4_3 b0 b1 b2 b3)
  have fA := hK.h1.frozen 3
  go_upto_region 6 with fail
  have hK := Kp.setCell (i := 3) (v := .int .u64 (s3 : Int)) hK (by simp; omega) hleX
  rw [Q4_set3] at hK
  generalize W012.setCell ⟨bX, 3, none⟩ (.int .u64 (s3 : Int)) = W0123 at *
  clear cA fA cB r3
  go_wp2_with (first
    | refine wpList_load_own (by rfl) 131 (.tmp 2) (by rfl) bX (by rfl) (Q4 s0 s1 s2 s3) _ hK.h1 Tryz.underlying131 (by rfl) (Q4_info _ _ _ _) ?_
    | refine wpList_store_own (by rfl) 131 (.tmp 4) (.tmp 45) (by rfl) bR 0 (Q4 s0 s1 s2 s3) (by rfl) (by rfl) hK.h3 (Q4_le _ _ _ _ _ _ _ _) (Q4_info _ _ _ _) (Q4_one _ _ _ _) (by rfl) ?_)
  exact bodyPost_ret (results_own Tryz.results119 _ _ bR (Q4 s0 s1 s2 s3) _ (by rfl) (own_setCells hK.h3 (Q4_sizes _ _ _ _ _ _ _ _)) Tryz.underlying131 rfl (Q4_info _ _ _ _)) rfl ⟨by rw [Hend.out], Below.setCells _ _ _ _ hleR hK.2⟩
set_option maxRecDepth 100000 in
set_option maxHeartbeats 8000000 in
theorem opp_any (n : Nat) (hn : n < R256) (w : World) (hT : TP w) :
    Calls Tryz.prog 121 #[.agg (numA n)] w fun r w' => r = .returned (.agg (numA (pp - n % pp))) ∧ Below w.heap.size w w' := by
  have hz := (zero_of_info zeroFN).1
  have hm : n % pp < pp := Nat.mod_lt _ pp_pos
  obtain ⟨m, Hm⟩ : ∃ m, Hid (n % pp = m) := ⟨_, rfl⟩
  rw [Hm.out] at hm ⊢
  have hmR : m < R256 := Nat.lt_trans hm (by decide)
  obtain ⟨a0, a1, a2, a3, eX, ha0, ha1, ha2, ha3, vX⟩ := open4 hmR
  obtain ⟨s0, k0, r0, hs0, hk0, e0⟩ := sub64_any 18446744073709551597 a0 0 (by decide) ha0 (by omega)
  obtain ⟨s1, k1, r1, hs1, hk1, e1⟩ := sub64_any 18446744073709551615 a1 k0 (by decide) ha1 hk0
  obtain ⟨s2, k2, r2, hs2, hk2, e2⟩ := sub64_any 18446744073709551615 a2 k1 (by decide) ha2 hk1
  obtain ⟨s3, k3, r3, hs3, hk3, e3⟩ := sub64_any 9223372036854775807 a3 k2 (by decide) ha3 hk2
  have Hend : Hid (Q4 s0 s1 s2 s3 = numA (pp - m)) := by
    refine Q4_num hs0 hs1 hs2 hs3 ?_
    have hp : pp = 57896044618658097711785492504343953926634992332820282019728792003956564819949 := rfl
    rw [hp, ← vX] at hm ⊢
    unfold v4 at *
    omega
  have EX := show Hid _ from eX
  clear e0 e1 e2 e3 vX eX
  have r0 : ∀ w, (callFunc 115 #[.int .u64 18446744073709551597, .int .u64 (a0 : Int), .int .u64 0]).run Tryz.prog w = .ok (.value (.tuple #[.int .u64 (s0 : Int), .int .u64 (k0 : Int)])) w := r0
  have r1 : ∀ w, (callFunc 115 #[.int .u64 18446744073709551615, .int .u64 (a1 : Int), .int .u64 (k0 : Int)]).run Tryz.prog w = .ok (.value (.tuple #[.int .u64 (s1 : Int), .int .u64 (k1 : Int)])) w := r1
  have r2 : ∀ w, (callFunc 115 #[.int .u64 18446744073709551615, .int .u64 (a2 : Int), .int .u64 (k1 : Int)]).run Tryz.prog w = .ok (.value (.tuple #[.int .u64 (s2 : Int), .int .u64 (k2 : Int)])) w := r2
  have r3 : ∀ w, (callFunc 115 #[.int .u64 9223372036854775807, .int .u64 (a3 : Int), .int .u64 (k2 : Int)]).run Tryz.prog w = .ok (.value (.tuple #[.int .u64 (s3 : Int), .int .u64 (k3 : Int)])) w := r3
  go_enter Tryz.func121, Tryz.ntmps121
  go_upto_region 1 with fail
  have hK := ((Kp.nil w).alloc (numA n) 131).alloc (Q4 0 0 0 0) 131
  rw [World.size_alloc] at hK
  rw [Q4_zero]
  generalize (w.alloc (.cells (numA n) 131)).alloc (.cells (Q4 0 0 0 0) 131) = W at *
  obtain ⟨bX, H1⟩ : ∃ bX, Hid (w.heap.size = bX) := ⟨_, rfl⟩
  obtain ⟨bR, H3⟩ : ∃ bR, Hid (bX + 1 = bR) := ⟨_, rfl⟩
  have hleX : w.heap.size ≤ bX := Nat.le_of_eq H1.out
  have hleR : w.heap.size ≤ bR := by have := H1.out; have := H3.out; omega
  have nR : bR ≠ bX := by have := H3.out; omega
  have nG : bX ≠ 9 := by have := hT.1; omega
  rw [H1.out, H3.out] at hK ⊢
  have hK : Kp [(bX, numA n, 131), (bR, Q4 0 0 0 0, 131)] w W := hK.sub (by simp)
  go_wp2_with (refine wpList_load_own (by rfl) 131 (.tmp 1) (by rfl) bX (by rfl) (numA n) _ hK.h1 Tryz.underlying131 (by rfl) infoFN ?_)
  refine (least_any n hn W (hT.kp hK)).mono ?_
  rintro r V ⟨rfl, bw⟩
  rw [Hm.out, EX.out]
  have hK := hK.below bw
  go_upto_region 2 with (refine wpList_store_own (by rfl) 131 (.tmp 1) (.tmp 5) (by rfl) bX 0 (Q4 a0 a1 a2 a3) (by rfl) (by rfl) hK.h1 (Nat.le_refl _) (Q4_info _ _ _ _) (Q4_one _ _ _ _) (by rfl) ?_)
  have hK := Kp.set (A' := Q4 a0 a1 a2 a3) hK (by simp; omega) hleX rfl
  generalize V.setCells bX 0 (Q4 a0 a1 a2 a3).toList = V1 at *
  have cA := hK.h1.cell (Q4_0 a0 a1 a2 a3)
  have cB := (hT.kp hK).2.1
  have fA := hK.h1.frozen 0
  go_upto_region 4 with fail
  have hK := Kp.setCell (i := 0) (v := .int .u64 (s0 : Int)) hK (by simp; omega) hleX
  rw [Q4_set0] at hK
  generalize V1.setCell ⟨bX, 0, none⟩ (.int .u64 (s0 : Int)) = V10 at *
  clear cA fA cB r0
  have cA := hK.h1.cell (Q4_1 s0 a1 a2 a3)
  have cB := (hT.kp hK).2.2.1
  have fA := hK.h1.frozen 1
  go_upto_region 5 with fail
  have hK := Kp.setCell (i := 1) (v := .int .u64 (s1 : Int)) hK (by simp; omega) hleX
  rw [Q4_set1] at hK
  generalize V10.setCell ⟨bX, 1, none⟩ (.int .u64 (s1 : Int)) = V101 at *
  clear cA fA cB r1
  have cA := hK.h1.cell (Q4_2 s0 s1 a2 a3)
  have cB := (hT.kp hK).2.2.2.1
  have fA := hK.h1.frozen 2
  go_upto_region 6 with fail
  have hK := Kp.setCell (i := 2) (v := .int .u64 (s2 : Int)) hK (by simp; omega) hleX
  rw [Q4_set2] at hK
  generalize V101.setCell ⟨bX, 2, none⟩ (.int .u64 (s2 : Int)) = V1012 at *
  clear cA fA cB r2
  have cA := hK.h1.cell (Q4_3 s0 s1 s2 a3)
  have cB := (hT.kp hK).2.2.2.2
  have fA := hK.h1.frozen 3
  go_upto_region 7 with fail
  have hK := Kp.setCell (i := 3) (v := .int .u64 (s3 : Int)) hK (by simp; omega) hleX
  rw [Q4_set3] at hK
  generalize V1012.setCell ⟨bX, 3, none⟩ (.int .u64 (s3 : Int)) = V10123 at *
  clear cA fA cB r3
  go_wp2_with (first
    | refine wpList_load_own (by rfl) 131 (.tmp 1) (by rfl) bX (by rfl) (Q4 s0 s1 s2 s3) _ hK.h1 Tryz.underlying131 (by rfl) (Q4_info _ _ _ _) ?_
    | refine wpList_store_own (by rfl) 131 (.tmp 2) (.tmp 45) (by rfl) bR 0 (Q4 s0 s1 s2 s3) (by rfl) (by rfl) hK.h2 (Q4_le _ _ _ _ _ _ _ _) (Q4_info _ _ _ _) (Q4_one _ _ _ _) (by rfl) ?_)
  exact bodyPost_ret (results_own Tryz.results121 _ _ bR (Q4 s0 s1 s2 s3) _ (by rfl) (own_setCells hK.h2 (Q4_sizes _ _ _ _ _ _ _ _)) Tryz.underlying131 rfl (Q4_info _ _ _ _)) rfl ⟨by rw [Hend.out], Below.setCells _ _ _ _ hleR hK.2⟩
end Go.Proofs.YtgibllaifnnfkaaGreatDoor
