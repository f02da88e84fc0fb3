/- Steps, rows and carries of the program's numbers. -/
import Derived.Test.YtaefjbklioljnaaDoorE0
namespace Go.Proofs.YtaefjbklioljnaaDoor
open Go.RowKit
/-- The cells of a number of four words, and the number. -/
def Q4 (a b c d : Nat) : Array Value := #[.int .u64 (a : Int), .int .u64 (b : Int), .int .u64 (c : Int), .int .u64 (d : Int)]
def v4 (a b c d : Nat) : Nat := a + 18446744073709551616 * b + 340282366920938463463374607431768211456 * c + 6277101735386680763835789423207666416102355444464034512896 * d
theorem infoFN : (Tryd.prog.info? 46).map (·.size) = some 4 := by kernel_rfl
theorem zeroFN : (Tryd.prog.info? 46).map (fun i => (i.zero, i.size)) = some (some (.agg #[.int .u64 0, .int .u64 0, .int .u64 0, .int .u64 0]), 4) := by kernel_rfl
theorem Q4_info (a b c d : Nat) : (Tryd.prog.info? 46).map (·.size) = some (Q4 a b c d).size := infoFN
theorem Q4_one (a b c d : Nat) : (Q4 a b c d).all (·.oneCell') = true := by simp [Q4, Value.oneCell']
theorem Q4_sizes (a b c d a' b' c' d' : Nat) : (Q4 a b c d).size = (Q4 a' b' c' d').size := rfl
theorem Q4_le (a b c d a' b' c' d' : Nat) : 0 + (Q4 a b c d).size ≤ (Q4 a' b' c' d').size := Nat.le_refl _
theorem Q4_0 (a b c d : Nat) : (Q4 a b c d)[0]? = some (.int .u64 (a : Int)) := rfl
theorem Q4_1 (a b c d : Nat) : (Q4 a b c d)[1]? = some (.int .u64 (b : Int)) := rfl
theorem Q4_2 (a b c d : Nat) : (Q4 a b c d)[2]? = some (.int .u64 (c : Int)) := rfl
theorem Q4_3 (a b c d : Nat) : (Q4 a b c d)[3]? = some (.int .u64 (d : Int)) := rfl
theorem Q4_set0 (a b c d x : Nat) : (Q4 a b c d).setIfInBounds 0 (.int .u64 (x : Int)) = Q4 x b c d := rfl
theorem Q4_set1 (a b c d x : Nat) : (Q4 a b c d).setIfInBounds 1 (.int .u64 (x : Int)) = Q4 a x c d := rfl
theorem Q4_set2 (a b c d x : Nat) : (Q4 a b c d).setIfInBounds 2 (.int .u64 (x : Int)) = Q4 a b x d := rfl
theorem Q4_set3 (a b c d x : Nat) : (Q4 a b c d).setIfInBounds 3 (.int .u64 (x : Int)) = Q4 a b c x := rfl
theorem Q4_zero : (#[.int .u64 0, .int .u64 0, .int .u64 0, .int .u64 0] : Array Value) = Q4 0 0 0 0 := rfl
theorem Kp.h1 {b : Nat} {A : Array Value} {t : TypeId} {l : List (Nat × Array Value × TypeId)} {w0 w : World} (h : Kp ((b, A, t) :: l) w0 w) : Own w b A t := h.at b A t (by simp)
theorem Kp.h2 {p1 : Nat × Array Value × TypeId} {b : Nat} {A : Array Value} {t : TypeId} {l : List (Nat × Array Value × TypeId)} {w0 w : World} (h : Kp (p1 :: (b, A, t) :: l) w0 w) : Own w b A t := h.at b A t (by simp)
theorem Kp.h3 {p1 p2 : Nat × Array Value × TypeId} {b : Nat} {A : Array Value} {t : TypeId} {l : List (Nat × Array Value × TypeId)} {w0 w : World} (h : Kp (p1 :: p2 :: (b, A, t) :: l) w0 w) : Own w b A t := h.at b A t (by simp)
theorem Kp.h4 {p1 p2 p3 : Nat × Array Value × TypeId} {b : Nat} {A : Array Value} {t : TypeId} {l : List (Nat × Array Value × TypeId)} {w0 w : World} (h : Kp (p1 :: p2 :: p3 :: (b, A, t) :: l) w0 w) : Own w b A t := h.at b A t (by simp)
theorem results_tmp_own {P : Program} {fn : Func} {p u : Tmp} {ty : TypeId} (h : fn.results = #[.tmp u, .cell p ty]) (tmps : Array Value) (w : World) (b : Nat) (A : Array Value) (d : TypeDesc)
    (hp : tmps.getD p undef = .pointer (some ⟨b, 0, none⟩)) {t : TypeId} (ho : Own w b A t) (hu : P.underlying ty = some d) (hd : d.isRow = true) (hi : (P.info? ty).map (·.size) = some A.size) :
    (results fn tmps).run P w = .ok (.tuple #[tmps.getD u undef, .agg A]) w := by
  have := run_loadVar_mid w b 0 ty A.toList d ho.range hu hd (by simpa using hi)
  have e : (results fn tmps).run P w = ((asAddr (tmps.getD p undef)).run P w).andThen fun a w₁ => ((loadVar ty a).run P w₁).andThen fun v w₂ => .ok (.tuple #[tmps.getD u undef, v]) w₂ := by
    simp only [results, h]
    simp [Sem.run_bind, Result.andThen]
  rw [e, hp]
  simp [asAddr, this]
theorem wordMul (a b : Nat) (ha : a < 18446744073709551616) (hb : b < 18446744073709551616) : a * b ≤ 340282366920938463426481119284349108225 := by
  have : a * b ≤ 18446744073709551615 * 18446744073709551615 := Nat.mul_le_mul (by omega) (by omega)
  omega

set_option maxRecDepth 100000 in
set_option maxHeartbeats 4000000 in
/-- Two words' product and two words more. -/
theorem step_any (x y e k : Nat) (hx : x < 18446744073709551616) (hy : y < 18446744073709551616) (he : e < 18446744073709551616) (hk : k < 18446744073709551616) (w : World) :
    Calls Tryd.prog 51 #[.int .u64 (x : Int), .int .u64 (y : Int), .int .u64 (e : Int), .int .u64 (k : Int)] w fun r w' => (∃ l h : Nat, r = .returned (.tuple #[.int .u64 (l : Int), .int .u64 (h : Int)]) ∧ l < 18446744073709551616 ∧ h < 18446744073709551616 ∧ x * y + e + k = l + 18446744073709551616 * h) ∧ w' = w := by
  have hxy := wordMul x y hx hy
  go_enter Tryd.func51, Tryd.ntmps51
  go_wp2_with fail
  refine (mul64_any x y hx hy w).mono ?_
  rintro r w1 ⟨⟨h, l, rfl, hh, hl, hp⟩, rfl⟩
  obtain ⟨l1, c1, r1, hl1, hc1, e1⟩ := add64_any l e 0 hl he (by omega)
  obtain ⟨l2, c2, r2, hl2, hc2, e2⟩ := add64_any l1 k 0 hl1 hk (by omega)
  have r1 : ∀ w, (callFunc 46 #[.int .u64 (l : Int), .int .u64 (e : Int), .int .u64 0]).run Tryd.prog w = .ok (.value (.tuple #[.int .u64 (l1 : Int), .int .u64 (c1 : Int)])) w := r1
  have r2 : ∀ w, (callFunc 46 #[.int .u64 (l1 : Int), .int .u64 (k : Int), .int .u64 0]).run Tryd.prog w = .ok (.value (.tuple #[.int .u64 (l2 : Int), .int .u64 (c2 : Int)])) w := r2
  obtain ⟨p, Hx⟩ : ∃ p, Hid (x * y = p) := ⟨_, rfl⟩
  rw [Hx.out] at hp hxy
  have hw1 : IntKind.u64.wrap ((h : Int) + (c1 : Int)) = ((h + c1 : Nat) : Int) := by
    rw [show (h : Int) + (c1 : Int) = ((h + c1 : Nat) : Int) by omega]; exact wrap_small _ (by omega)
  have hw2 : IntKind.u64.wrap (((h + c1 : Nat) : Int) + (c2 : Int)) = ((h + c1 + c2 : Nat) : Int) := by
    rw [show ((h + c1 : Nat) : Int) + (c2 : Int) = ((h + c1 + c2 : Nat) : Int) by omega]; exact wrap_small _ (by omega)
  have Hend : Hid (p + e + k = l2 + 18446744073709551616 * (h + c1 + c2)) := by show _ = _; omega
  have hlt : h + c1 + c2 < 18446744073709551616 := by omega
  clear hp e1 e2 hxy
  generalize h + c1 + c2 = h2 at *
  generalize h + c1 = h1 at *
  go_wp2_with fail
  exact bodyPost_ret (results_tmp2 Tryd.results51 _ _ _) rfl ⟨⟨l2, h2, rfl, hl2, hlt, by rw [Hx.out]; exact Hend.out⟩, rfl⟩

set_option maxRecDepth 100000 in
set_option maxHeartbeats 4000000 in
/-- A number and a word more. -/
theorem more_any (a b c d e : Nat) (ha : a < 18446744073709551616) (hb : b < 18446744073709551616) (hc : c < 18446744073709551616) (hd : d < 18446744073709551616) (he : e < 18446744073709551616) (w : World) :
    Calls Tryd.prog 47 #[.agg (Q4 a b c d), .int .u64 (e : Int)] w fun r w' => (∃ a' b' c' d' k : Nat, r = .returned (.tuple #[.agg (Q4 a' b' c' d'), .int .u64 (k : Int)]) ∧ a' < 18446744073709551616 ∧ b' < 18446744073709551616 ∧ c' < 18446744073709551616 ∧ d' < 18446744073709551616 ∧ k ≤ 1 ∧ v4 a b c d + e = v4 a' b' c' d' + R256 * k) ∧ Below w.heap.size w w' := by
  have hz := (zero_of_info zeroFN).1
  obtain ⟨s0, k0, r0, hs0, hk0, e0⟩ := add64_any a e 0 ha he (by omega)
  obtain ⟨s1, k1, r1, hs1, hk1, e1⟩ := add64_any b 0 k0 hb (by omega) hk0
  obtain ⟨s2, k2, r2, hs2, hk2, e2⟩ := add64_any c 0 k1 hc (by omega) hk1
  obtain ⟨s3, k3, r3, hs3, hk3, e3⟩ := add64_any d 0 k2 hd (by omega) hk2
  have Hend : Hid (v4 a b c d + e = v4 s0 s1 s2 s3 + R256 * k3) := by show _ = _; unfold v4 R256; omega
  clear e0 e1 e2 e3
  have r0 : ∀ w, (callFunc 46 #[.int .u64 (a : Int), .int .u64 (e : Int), .int .u64 0]).run Tryd.prog w = .ok (.value (.tuple #[.int .u64 (s0 : Int), .int .u64 (k0 : Int)])) w := r0
  have r1 : ∀ w, (callFunc 46 #[.int .u64 (b : Int), .int .u64 0, .int .u64 (k0 : Int)]).run Tryd.prog w = .ok (.value (.tuple #[.int .u64 (s1 : Int), .int .u64 (k1 : Int)])) w := r1
  have r2 : ∀ w, (callFunc 46 #[.int .u64 (c : Int), .int .u64 0, .int .u64 (k1 : Int)]).run Tryd.prog w = .ok (.value (.tuple #[.int .u64 (s2 : Int), .int .u64 (k2 : Int)])) w := r2
  have r3 : ∀ w, (callFunc 46 #[.int .u64 (d : Int), .int .u64 0, .int .u64 (k2 : Int)]).run Tryd.prog w = .ok (.value (.tuple #[.int .u64 (s3 : Int), .int .u64 (k3 : Int)])) w := r3
  go_enter Tryd.func47, Tryd.ntmps47
  go_upto_region 1 with fail
  have hK := ((Kp.nil w).alloc (Q4 a b c d) 46).alloc (Q4 0 0 0 0) 46
  rw [World.size_alloc] at hK
  rw [Q4_zero]
  generalize (w.alloc (.cells (Q4 a b c d) 46)).alloc (.cells (Q4 0 0 0 0) 46) = W at *
  obtain ⟨bA, HA⟩ : ∃ bA, Hid (w.heap.size = bA) := ⟨_, rfl⟩
  obtain ⟨bR, HR⟩ : ∃ bR, Hid (bA + 1 = bR) := ⟨_, rfl⟩
  have hle : w.heap.size ≤ bA := Nat.le_of_eq HA.out
  have hleR : w.heap.size ≤ bR := by have := HR.out; omega
  have n1 : bR ≠ bA := by have := HR.out; omega
  rw [HA.out, HR.out] at hK ⊢
  have hK : Kp [(bA, Q4 a b c d, 46), (bR, Q4 0 0 0 0, 46)] w W := hK.sub (by simp)
  have c0 := hK.h1.cell (Q4_0 a b c d)
  have f0 := hK.h1.frozen 0
  go_upto_region 2 with fail
  have hK := Kp.setCell (i := 0) (v := .int .u64 (s0 : Int)) hK (by simp; omega) hle
  rw [Q4_set0] at hK
  generalize W.setCell ⟨bA, 0, none⟩ (.int .u64 (s0 : Int)) = W1 at *
  clear c0 f0 r0
  have c0 := hK.h1.cell (Q4_1 s0 b c d)
  have f0 := hK.h1.frozen 1
  go_upto_region 3 with fail
  have hK := Kp.setCell (i := 1) (v := .int .u64 (s1 : Int)) hK (by simp; omega) hle
  rw [Q4_set1] at hK
  generalize W1.setCell ⟨bA, 1, none⟩ (.int .u64 (s1 : Int)) = W2 at *
  clear c0 f0 r1
  have c0 := hK.h1.cell (Q4_2 s0 s1 c d)
  have f0 := hK.h1.frozen 2
  go_upto_region 4 with fail
  have hK := Kp.setCell (i := 2) (v := .int .u64 (s2 : Int)) hK (by simp; omega) hle
  rw [Q4_set2] at hK
  generalize W2.setCell ⟨bA, 2, none⟩ (.int .u64 (s2 : Int)) = W3 at *
  clear c0 f0 r2
  have c0 := hK.h1.cell (Q4_3 s0 s1 s2 d)
  have f0 := hK.h1.frozen 3
  go_upto_region 5 with fail
  have hK := Kp.setCell (i := 3) (v := .int .u64 (s3 : Int)) hK (by simp; omega) hle
  rw [Q4_set3] at hK
  generalize W3.setCell ⟨bA, 3, none⟩ (.int .u64 (s3 : Int)) = W4 at *
  clear c0 f0 r3
  go_wp2_with (first
    | refine wpList_load_own (by rfl) 46 (.tmp 2) (by rfl) bA (by rfl) (Q4 s0 s1 s2 s3) _ hK.h1 Tryd.underlying46 (by rfl) (Q4_info _ _ _ _) ?_
    | refine wpList_store_own (by rfl) 46 (.tmp 4) (.tmp 38) (by rfl) bR 0 (Q4 s0 s1 s2 s3) (by rfl) (by rfl) hK.h2 (Q4_le _ _ _ _ _ _ _ _) (Q4_info _ _ _ _) (Q4_one _ _ _ _) (by rfl) ?_)
  exact bodyPost_ret (results_own_tmp Tryd.results47 _ _ bR (Q4 s0 s1 s2 s3) _ (by rfl) (own_setCells hK.h2 (Q4_sizes _ _ _ _ _ _ _ _)) Tryd.underlying46 rfl (Q4_info _ _ _ _)) rfl ⟨⟨s0, s1, s2, s3, k3, rfl, hs0, hs1, hs2, hs3, hk3, Hend.out⟩, Below.setCells _ _ _ _ hleR hK.2⟩
end Go.Proofs.YtaefjbklioljnaaDoor
