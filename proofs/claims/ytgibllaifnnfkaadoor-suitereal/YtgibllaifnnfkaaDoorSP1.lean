/- The program's public key. -/
import Derived.Test.YtgibllaifnnfkaaDoorSH1
namespace Go.Proofs.YtgibllaifnnfkaaDoor
open Go Go.RowKit
set_option maxRecDepth 100000 in
set_option maxHeartbeats 4000000 in
theorem public_at {T : World → Prop} (F : Low T) {n lo hi c y : Nat} (Hd : Hid (dn (by32 n) = two lo hi)) (llo : Hid (lo < R256)) (Hc : Hid (clamp lo = c)) (Hy : Hid (enc (Pt.times c BP) = y)) (w : World) (hT : T w) : Calls Tryd.prog 7 #[.agg (B32 (bdig n))] w fun x w' => x = .returned (.agg (B32 (bdig y))) ∧ Below w.heap.size w w' := by
  have hz := (zero_of_info zeroB32).1
  have lc : Hid (c < R256) := by show _ < _; rw [← Hc.out]; exact clamp_lt _
  go_enter Tryd.func7, Tryd.ntmps7
  go_upto_region 1 with fail
  have hK := ((Kp.nil w).alloc (B32 (bdig n)) 22).alloc (B32 fun _ => 0) 22
  rw [World.size_alloc] at hK
  generalize (w.alloc (.cells (B32 (bdig n)) 22)).alloc (.cells (B32 fun _ => 0) 22) = W at *
  obtain ⟨bA, HbA⟩ : ∃ b, Hid (w.heap.size = b) := ⟨_, rfl⟩
  obtain ⟨bR, HbR⟩ : ∃ b, Hid (bA + 1 = b) := ⟨_, rfl⟩
  have le_bA : Hid (w.heap.size ≤ bA) := by show _ ≤ _; have := HbA.out; omega
  have le_bR : Hid (w.heap.size ≤ bR) := by show _ ≤ _; have := HbA.out; have := HbR.out; omega
  have ne_bA_bR : Hid (bA ≠ bR) := by show _ ≠ _; have := HbR.out; omega
  rw [HbA.out, HbR.out] at hK ⊢
  go_wp2_with (refine wpList_load_own (by rfl) 22 (.tmp 1) (by rfl) bA (by rfl) (B32 (bdig n)) _ (hK.at bA (B32 (bdig n)) 22 (.tail _ (.head _))) Tryd.underlying22 (by rfl) (B32_info _) ?_)
  refine (halves_at F Hd llo Hc _ (F.keep _ _ hT hK.2)).mono ?_
  rintro e V1 ⟨rfl, bw⟩
  have hK := hK.below bw
  clear bw
  go_upto_region 2 with ((refine wpList_news2 hK 22 22 3 4 8 9 (by rfl) (by rfl) (by rfl) (by rfl) (by rfl) (by rfl) (by rfl) (by rfl) (by rfl) (by rfl) (by rfl) (by rfl) hz hz (of_decide_eq_true (by rfl)) (of_decide_eq_true (by rfl)) (by decide) (by decide) (by decide) (by decide) (by decide) (by rfl) (by rfl) (B32_sizes _ _) (B32_sizes _ _) (B32_info _) (B32_info _) (B32_one _) (B32_one _) ?_; intro b2 b3 V4 le_b2 le_b3 ne_b2_b3 ap1 ap2 hK))
  have le_b2 := show Hid _ from le_b2
  have le_b3 := show Hid _ from le_b3
  have ne_b2_b3 := show Hid _ from ne_b2_b3
  have ne_bR_b2 : Hid (bR ≠ b2) := ap1 (bR, B32 fun _ => 0, 22) (.head _)
  have ne_bR_b3 : Hid (bR ≠ b3) := ap2 (bR, B32 fun _ => 0, 22) (.head _)
  have ne_bA_b2 : Hid (bA ≠ b2) := ap1 (bA, B32 (bdig n), 22) (.tail _ (.head _))
  have ne_bA_b3 : Hid (bA ≠ b3) := ap2 (bA, B32 (bdig n), 22) (.tail _ (.head _))
  clear ap1 ap2
  go_wp2_with (refine wpList_load_own (by rfl) 22 (.tmp 3) (by rfl) b2 (by rfl) (B32 (bdig c)) _ (hK.at b2 (B32 (bdig c)) 22 (.tail _ (.head _))) Tryd.underlying22 (by rfl) (B32_info _) ?_)
  refine (F.baseA lc.out Hy.out _ (F.keep _ _ hT hK.2)).mono ?_
  rintro e V5 ⟨rfl, bw⟩
  have hK := hK.below bw
  clear bw
  go_wp2_with (refine wpList_store_own (op := { dst := none, op := _, type := _, pos := _, after := _, guard := _ }) rfl 22 (.tmp 2) (.tmp 11) rfl bR 0 (B32 (bdig y)) (by rfl) (by rfl) (hK.at bR (B32 fun _ => 0) 22 (.tail _ (.tail _ (.head _)))) (B32_le _ _) (B32_info _) (B32_one _) (by rfl) ?_)
  exact bodyPost_ret (results_own Tryd.results7 _ _ bR (B32 (bdig y)) _ (by rfl) (own_setCells (hK.at bR (B32 fun _ => 0) 22 (.tail _ (.tail _ (.head _)))) (B32_sizes _ _)) Tryd.underlying22 rfl (B32_info _)) rfl ⟨rfl, Below.setCells _ _ _ _ le_bR.out hK.2⟩
end Go.Proofs.YtgibllaifnnfkaaDoor
