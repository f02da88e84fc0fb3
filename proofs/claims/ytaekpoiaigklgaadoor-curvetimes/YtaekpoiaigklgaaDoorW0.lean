/- What the laws of the curve lean on: the program's functions by their contracts; the laws' own helpers. -/
import Derived.Test.YtaekpoiaigklgaaDoorVB
import Derived.Test.YtaekpoiaigklgaaDoorEA
namespace Go.Proofs.YtaekpoiaigklgaaDoor
open Go Go.RowKit
/-- The program's functions of points, by what they answer; T: what they want of memory. -/
structure Crv (T : World → Prop) : Prop where
  keep : ∀ w w', T w → Below w.heap.size w w' → T w'
  check : ∀ (P : Pt E5) w, T w → Calls Tryd.prog 10 #[.agg (B32 (bdig (enc P)))] w fun x w' => x = .returned (.bool true) ∧ Below w.heap.size w w'
  check_not : ∀ a, a < R256 → (∀ P : Pt E5, enc P ≠ a) → ∀ w, T w → Calls Tryd.prog 10 #[.agg (B32 (bdig a))] w fun x w' => x = .returned (.bool false) ∧ Below w.heap.size w w'
  add : ∀ (P Q : Pt E5) w, T w → Calls Tryd.prog 11 #[.agg (B32 (bdig (enc P))), .agg (B32 (bdig (enc Q)))] w fun x w' => x = .returned (.tuple #[.agg (B32 (bdig (enc (P.add Q)))), .int .i64 0]) ∧ Below w.heap.size w w'
  add_not : ∀ a b, a < R256 → b < R256 → ((∀ P : Pt E5, enc P ≠ a) ∨ ∀ P : Pt E5, enc P ≠ b) → ∀ w, T w → Calls Tryd.prog 11 #[.agg (B32 (bdig a)), .agg (B32 (bdig b))] w fun x w' => x = .returned (.tuple #[.agg (B32 fun _ => 0), .int .i64 1]) ∧ Below w.heap.size w w'
  neg : ∀ (P : Pt E5) w, T w → Calls Tryd.prog 13 #[.agg (B32 (bdig (enc P)))] w fun x w' => x = .returned (.tuple #[.agg (B32 (bdig (enc P.neg))), .int .i64 0]) ∧ Below w.heap.size w w'
  neg_not : ∀ a, a < R256 → (∀ P : Pt E5, enc P ≠ a) → ∀ w, T w → Calls Tryd.prog 13 #[.agg (B32 (bdig a))] w fun x w' => x = .returned (.tuple #[.agg (B32 fun _ => 0), .int .i64 1]) ∧ Below w.heap.size w w'
  mul : ∀ n, n < R256 → ∀ (P : Pt E5) w, T w → Calls Tryd.prog 15 #[.agg (B32 (bdig n)), .agg (B32 (bdig (enc P)))] w fun x w' => x = .returned (.tuple #[.agg (B32 (bdig (enc (Pt.times n P)))), .int .i64 0]) ∧ Below w.heap.size w w'
  mul_not : ∀ n a, n < R256 → a < R256 → (∀ P : Pt E5, enc P ≠ a) → ∀ w, T w → Calls Tryd.prog 15 #[.agg (B32 (bdig n)), .agg (B32 (bdig a))] w fun x w' => x = .returned (.tuple #[.agg (B32 fun _ => 0), .int .i64 1]) ∧ Below w.heap.size w w'
  base : ∀ n, n < R256 → ∀ w, T w → Calls Tryd.prog 18 #[.agg (B32 (bdig n))] w fun x w' => x = .returned (.agg (B32 (bdig (enc (Pt.times n BP))))) ∧ Below w.heap.size w w'
section
variable {T : World → Prop} (F : Crv T)
include F
theorem Crv.checkA {P : Pt E5} {a : Nat} (ha : enc P = a) (w : World) (hT : T w) : Calls Tryd.prog 10 #[.agg (B32 (bdig a))] w fun x w' => x = .returned (.bool true) ∧ Below w.heap.size w w' := by
  subst ha; exact F.check P w hT
theorem Crv.addA {P Q S : Pt E5} {a b c : Nat} (ha : enc P = a) (hb : enc Q = b) (h : P.add Q = S) (hc : enc S = c) (w : World) (hT : T w) : Calls Tryd.prog 11 #[.agg (B32 (bdig a)), .agg (B32 (bdig b))] w fun x w' => x = .returned (.tuple #[.agg (B32 (bdig c)), .int .i64 0]) ∧ Below w.heap.size w w' := by
  subst ha; subst hb; subst hc; subst h; exact F.add P Q w hT
theorem Crv.negA {P S : Pt E5} {a c : Nat} (ha : enc P = a) (h : P.neg = S) (hc : enc S = c) (w : World) (hT : T w) : Calls Tryd.prog 13 #[.agg (B32 (bdig a))] w fun x w' => x = .returned (.tuple #[.agg (B32 (bdig c)), .int .i64 0]) ∧ Below w.heap.size w w' := by
  subst ha; subst hc; subst h; exact F.neg P w hT
theorem Crv.mulA {n : Nat} {P S : Pt E5} {a c : Nat} (hn : n < R256) (ha : enc P = a) (h : Pt.times n P = S) (hc : enc S = c) (w : World) (hT : T w) : Calls Tryd.prog 15 #[.agg (B32 (bdig n)), .agg (B32 (bdig a))] w fun x w' => x = .returned (.tuple #[.agg (B32 (bdig c)), .int .i64 0]) ∧ Below w.heap.size w w' := by
  subst ha; subst hc; subst h; exact F.mul n hn P w hT
theorem Crv.baseA {n c : Nat} (hn : n < R256) (hc : enc (Pt.times n BP) = c) (w : World) (hT : T w) : Calls Tryd.prog 18 #[.agg (B32 (bdig n))] w fun x w' => x = .returned (.agg (B32 (bdig c))) ∧ Below w.heap.size w w' := by
  subst hc; exact F.base n hn w hT
end
theorem enc_nought : enc (Pt.zero : Pt E5) = 1 := by decide +kernel
theorem base_0 : enc (Pt.times 0 BP) = 1 := enc_nought
theorem base_1 : enc (Pt.times 1 BP) = byN := by rw [Pt.times_one]; exact enc_base
set_option maxRecDepth 100000 in
set_option maxHeartbeats 2000000 in
theorem numc_any (n : Nat) (hn : n < 9223372036854775808) (w : World) : Calls Tryd.prog 21 #[.int .i64 (n : Int)] w fun x w' => x = .returned (.agg (B32 (bdig n))) ∧ Below w.heap.size w w' := by
  have hz := (zero_of_info zeroB32).1
  go_enter Tryd.func21, Tryd.ntmps21
  go_upto_region 1 with fail
  have hK := (Kp.nil w).alloc (B32 fun _ => 0) 22
  generalize w.alloc (.cells (B32 fun _ => 0) 22) = W at *
  obtain ⟨bR, HbR⟩ : ∃ b, Hid (w.heap.size = b) := ⟨_, rfl⟩
  have le_bR : Hid (w.heap.size ≤ bR) := by show _ ≤ _; have := HbR.out; omega
  rw [HbR.out] at hK ⊢
  go_wp2_with fail
  refine (num_any n hn _).mono ?_
  rintro e w1 ⟨rfl, b1⟩
  have hK := hK.below b1
  go_wp2_with (refine wpList_store_own (by rfl) 22 (.tmp 2) (.tmp 4) (by rfl) bR 0 (B32 (bdig n)) (by rfl) (by rfl) (hK.at bR (B32 fun _ => 0) 22 (.head _)) (B32_le _ _) (B32_info _) (B32_one _) (by rfl) ?_)
  exact bodyPost_ret (results_own Tryd.results21 _ _ bR (B32 (bdig n)) _ (by rfl) (own_setCells (hK.at bR (B32 fun _ => 0) 22 (.head _)) (B32_sizes _ _)) Tryd.underlying22 rfl (B32_info _)) rfl ⟨rfl, Below.setCells _ _ _ _ le_bR.out hK.2⟩
set_option maxRecDepth 100000 in
set_option maxHeartbeats 2000000 in
theorem cwakes_any {T : World → Prop} (F : Crv T) (w : World) (hT : T w) : Calls Tryd.prog 17 #[] w fun x w' => x = .returned (.bool true) ∧ Below w.heap.size w w' := by
  have hz := (zero_of_info zeroB32).1
  obtain ⟨c, Hc⟩ : ∃ c, Hid (enc BP = c) := ⟨_, rfl⟩
  have Hc1 : Hid (enc (Pt.times 1 BP) = c) := by show _ = _; rw [Pt.times_one]; exact Hc.out
  have Hb0 : Hid (bdig c 0 = 88) := by show _ = _; rw [← Hc.out, enc_base]; decide +kernel
  have Hb1 : Hid (bdig c 1 = 102) := by show _ = _; rw [← Hc.out, enc_base]; decide +kernel
  have Hb31 : Hid (bdig c 31 = 102) := by show _ = _; rw [← Hc.out, enc_base]; decide +kernel
  go_enter Tryd.func17, Tryd.ntmps17
  go_upto_region 1 with fail
  have hK := Kp.nil w
  go_wp2_with fail
  refine (numc_any 1 (by decide) _).mono ?_
  rintro e V1 ⟨rfl, bw⟩
  have hK := hK.below bw
  clear bw
  go_wp2_with fail
  refine (F.baseA (by decide) Hc1.out _ (F.keep _ _ hT hK.2)).mono ?_
  rintro e V2 ⟨rfl, bw⟩
  have hK := hK.below bw
  clear bw
  go_upto_region 2 with (refine wpList_store_new (by rfl) 22 (.tmp 1) (.tmp 3) (by rfl) _ (B32 (bdig c)) (by rfl) (by rfl) (B32_info _) (B32_sizes _ _) (B32_one _) (by rfl) ?_)
  have le_b3 := show Hid _ from hK.2.size
  have hK := hK.alloc (B32 (bdig c)) 22
  generalize V2.alloc (.cells (B32 (bdig c)) 22) = V4 at *
  obtain ⟨b3, Hb3⟩ : ∃ b, Hid (V2.heap.size = b) := ⟨_, rfl⟩
  have le_b3 : Hid (w.heap.size ≤ b3) := by show _ ≤ _; rw [← Hb3.out]; exact le_b3.out
  rw [Hb3.out] at hK ⊢
  have c0 : V4.cell? ⟨b3, 0, none⟩ = some (.int .u8 88) := by have := (hK.at b3 (B32 (bdig c)) 22 (.head _)).cell (B32_at (bdig c) 0 (by decide)); rw [Hb0.out] at this; exact this
  have c1 : V4.cell? ⟨b3, 1, none⟩ = some (.int .u8 102) := by have := (hK.at b3 (B32 (bdig c)) 22 (.head _)).cell (B32_at (bdig c) 1 (by decide)); rw [Hb1.out] at this; exact this
  have c2 : V4.cell? ⟨b3, 31, none⟩ = some (.int .u8 102) := by have := (hK.at b3 (B32 (bdig c)) 22 (.head _)).cell (B32_at (bdig c) 31 (by decide)); rw [Hb31.out] at this; exact this
  have h1 := B32_same 1 (by decide)
  go_wp2_with (refine wpList_load_gd (by rfl) 22 (.tmp 1) (by rfl) b3 (by rfl) (B32 (bdig c)) _ (hK.at b3 (B32 (bdig c)) 22 (.head _)) Tryd.underlying22 (by rfl) (B32_info _) ?_)
  refine (F.checkA Hc.out _ (F.keep _ _ hT hK.2)).mono ?_
  rintro e w1 ⟨rfl, b1⟩
  have hK := hK.below b1
  go_wp2_with fail
  refine (numc_any 0 (by decide) _).mono ?_
  rintro e w2 ⟨rfl, b2⟩
  have hK := hK.below b2
  go_wp2_with fail
  refine (F.baseA (c := 1) (by decide) base_0 _ (F.keep _ _ hT hK.2)).mono ?_
  rintro e w3 ⟨rfl, b3⟩
  have hK := hK.below b3
  go_wp2_with fail
  refine (numc_any 1 (by decide) _).mono ?_
  rintro e w4 ⟨rfl, b4⟩
  have hK := hK.below b4
  go_wp2
  go_ret
  exact ⟨rfl, hK.2⟩
end Go.Proofs.YtaekpoiaigklgaaDoor
