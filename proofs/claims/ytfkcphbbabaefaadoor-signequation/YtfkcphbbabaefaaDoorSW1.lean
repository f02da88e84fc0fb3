/- The laws' wakes: the public key of the published seed. -/
import Derived.Test.YtfkcphbbabaefaaDoorSM1
namespace Go.Proofs.YtfkcphbbabaefaaDoor
open Go Go.RowKit
/-- The published seed, its number, its public key. -/
def wkN : Nat := 43647624700350065415986689228612485845309737963740022737531181108678917972381
def wkC : Nat := 36144925721603087658594284515452164870581325872720374094707712194495455132720
def wkX : Nat := 38815646466658113194383306759739515082307681141926459231621296960732224964046
def wkY : Nat := 11903303657706407974989296177215005343713679411332034699907763981919547054807
theorem wk_text : by32 wkN = [157, 97, 177, 157, 239, 253, 90, 96, 186, 132, 74, 244, 146, 236, 44, 196, 68, 73, 197, 105, 123, 50, 105, 25, 112, 59, 172, 3, 28, 174, 127, 96] := by decide +kernel
theorem wk_digest : H.digest [157, 97, 177, 157, 239, 253, 90, 96, 186, 132, 74, 244, 146, 236, 44, 196, 68, 73, 197, 105, 123, 50, 105, 25, 112, 59, 172, 3, 28, 174, 127, 96] = [53, 124, 131, 134, 79, 40, 51, 203, 66, 122, 46, 241, 192, 10, 1, 60, 253, 255, 39, 104, 217, 128, 192, 163, 165, 32, 240, 6, 144, 77, 233, 15, 155, 79, 10, 254, 40, 11, 116, 106, 119, 134, 132, 231, 84, 66, 80, 32, 87, 183, 71, 58, 3, 240, 143, 150, 245, 163, 142, 146, 135, 224, 31, 143] := by decide +kernel
theorem wk_num : numOf wkN = wkC := by
  unfold numOf dn
  rw [wk_text, wk_digest]
  decide +kernel
/-- Four numbers that stand for the point with this x and y. -/
def wit (r : N4) (x y : Nat) : Bool := r.X % pp == x * r.Z % pp && r.Y % pp == y * r.Z % pp
theorem enc_wit {P : Pt E5} {r : N4} (h : Rep4 P r) {x y : Nat} (hw : wit r x y = true) (lx : x < pp) (ly : y < pp) : enc P = y + HH * (x % 2) := by
  unfold wit at hw
  rw [Bool.and_eq_true, beq_iff_eq, beq_iff_eq] at hw
  obtain ⟨hx, hy, -, hz⟩ := h
  have hi := fq_inv hz
  have ax : fq r.X = fq x * fq r.Z := by rw [← fq_mul]; exact fq_eq.2 hw.1
  have ay : fq r.Y = fq y * fq r.Z := by rw [← fq_mul]; exact fq_eq.2 hw.2
  have ex : fq x = P.x := by
    generalize fq r.Z = z at *
    grind
  have ey : fq y = P.y := by
    generalize fq r.Z = z at *
    grind
  unfold enc
  rw [← ex, ← ey, fq_val, fq_val, Nat.mod_eq_of_lt lx, Nat.mod_eq_of_lt ly]
theorem wk_wit : wit (mul4 base4 256 wkC) wkX wkY = true := by decide +kernel
theorem wk_pub : pubOf wkN = wkY + HH * (wkX % 2) := by
  unfold pubOf
  rw [wk_num]
  exact enc_wit (base_rep.mul 256 wkC (by decide +kernel)) wk_wit (by decide +kernel) (by decide +kernel)
theorem wk_arr : B32 (bdig wkN) = #[.int .u8 157, .int .u8 97, .int .u8 177, .int .u8 157, .int .u8 239, .int .u8 253, .int .u8 90, .int .u8 96, .int .u8 186, .int .u8 132, .int .u8 74, .int .u8 244, .int .u8 146, .int .u8 236, .int .u8 44, .int .u8 196, .int .u8 68, .int .u8 73, .int .u8 197, .int .u8 105, .int .u8 123, .int .u8 50, .int .u8 105, .int .u8 25, .int .u8 112, .int .u8 59, .int .u8 172, .int .u8 3, .int .u8 28, .int .u8 174, .int .u8 127, .int .u8 96] := by rfl
theorem wk_b0 : bdig (pubOf wkN) 0 = 215 := by rw [wk_pub]; decide +kernel
theorem wk_b1 : bdig (pubOf wkN) 1 = 90 := by rw [wk_pub]; decide +kernel
theorem wk_b2 : bdig (pubOf wkN) 2 = 152 := by rw [wk_pub]; decide +kernel
theorem wk_b31 : bdig (pubOf wkN) 31 = 26 := by rw [wk_pub]; decide +kernel
set_option maxRecDepth 100000 in
set_option maxHeartbeats 2000000 in
theorem wakes_is {T : World → Prop} (F : Low T) (w : World) (hT : T w) : Calls Tryd.prog 10 #[] w fun x w' => x = .returned (.bool true) ∧ Below w.heap.size w w' := by
  have hz := (zero_of_info zeroB32).1
  obtain ⟨n, Hn⟩ : ∃ n, Hid (wkN = n) := ⟨_, rfl⟩
  obtain ⟨y, Hy⟩ : ∃ y, Hid (pubOf n = y) := ⟨_, rfl⟩
  have Ha : Hid (B32 (bdig n) = #[.int .u8 157, .int .u8 97, .int .u8 177, .int .u8 157, .int .u8 239, .int .u8 253, .int .u8 90, .int .u8 96, .int .u8 186, .int .u8 132, .int .u8 74, .int .u8 244, .int .u8 146, .int .u8 236, .int .u8 44, .int .u8 196, .int .u8 68, .int .u8 73, .int .u8 197, .int .u8 105, .int .u8 123, .int .u8 50, .int .u8 105, .int .u8 25, .int .u8 112, .int .u8 59, .int .u8 172, .int .u8 3, .int .u8 28, .int .u8 174, .int .u8 127, .int .u8 96]) := by show _ = _; rw [← Hn.out]; exact wk_arr
  have Hb0 : Hid (bdig y 0 = 215) := by show _ = _; rw [← Hy.out, ← Hn.out]; exact wk_b0
  have Hb1 : Hid (bdig y 1 = 90) := by show _ = _; rw [← Hy.out, ← Hn.out]; exact wk_b1
  have Hb2 : Hid (bdig y 2 = 152) := by show _ = _; rw [← Hy.out, ← Hn.out]; exact wk_b2
  have Hb31 : Hid (bdig y 31 = 26) := by show _ = _; rw [← Hy.out, ← Hn.out]; exact wk_b31
  have hp : Hid (∀ w, T w → Calls Tryd.prog 11 #[.agg (B32 (bdig n))] w fun x w' => x = .returned (.agg (B32 (bdig y))) ∧ Below w.heap.size w w') := fun w hT => by rw [← Hy.out]; exact public_is F n w hT
  go_enter Tryd.func10, Tryd.ntmps10
  go_upto_region 1 with fail
  have hK := Kp.nil w
  go_upto_region 2 with (first
    | refine H.wpList_build (by rfl) 22 _ rfl (.agg (B32 (bdig n))) (by rw [Ha.out]; kernel_rfl) ?_
    | refine wpList_store_new (by rfl) 22 (.tmp 1) (.tmp 3) (by rfl) _ (B32 (bdig n)) (by rfl) (by rfl) (B32_info _) (B32_sizes _ _) (B32_one _) (by rfl) ?_)
  have hK := hK.alloc (B32 (bdig n)) 22
  generalize w.alloc (.cells (B32 (bdig n)) 22) = V1 at *
  obtain ⟨bA, HbA⟩ : ∃ b, Hid (w.heap.size = b) := ⟨_, rfl⟩
  have le_bA : Hid (w.heap.size ≤ bA) := by show _ ≤ _; rw [HbA.out]; exact Nat.le_refl _
  rw [HbA.out] at hK ⊢
  go_wp2_with (refine wpList_load_own (by rfl) 22 (.tmp 1) (by rfl) bA (by rfl) (B32 (bdig n)) _ (hK.at bA (B32 (bdig n)) 22 (.head _)) Tryd.underlying22 (by rfl) (B32_info _) ?_)
  refine (hp.out _ (F.keep _ _ hT hK.2)).mono ?_
  rintro e V2 ⟨rfl, bw⟩
  have hK := hK.below bw
  clear bw
  go_upto_region 3 with (refine wpList_store_new (by rfl) 22 (.tmp 2) (.tmp 5) (by rfl) _ (B32 (bdig y)) (by rfl) (by rfl) (B32_info _) (B32_sizes _ _) (B32_one _) (by rfl) ?_)
  have hK := hK.alloc (B32 (bdig y)) 22
  generalize V2.alloc (.cells (B32 (bdig y)) 22) = V4 at *
  obtain ⟨b3, Hb3⟩ : ∃ b, Hid (V2.heap.size = b) := ⟨_, rfl⟩
  rw [Hb3.out] at hK ⊢
  have c0 : V4.cell? ⟨b3, 0, none⟩ = some (.int .u8 215) := by have := (hK.at b3 (B32 (bdig y)) 22 (.head _)).cell (B32_at (bdig y) 0 (by decide)); rw [Hb0.out] at this; exact this
  have c1 : V4.cell? ⟨b3, 1, none⟩ = some (.int .u8 90) := by have := (hK.at b3 (B32 (bdig y)) 22 (.head _)).cell (B32_at (bdig y) 1 (by decide)); rw [Hb1.out] at this; exact this
  have c2 : V4.cell? ⟨b3, 2, none⟩ = some (.int .u8 152) := by have := (hK.at b3 (B32 (bdig y)) 22 (.head _)).cell (B32_at (bdig y) 2 (by decide)); rw [Hb2.out] at this; exact this
  have c3 : V4.cell? ⟨b3, 31, none⟩ = some (.int .u8 26) := by have := (hK.at b3 (B32 (bdig y)) 22 (.head _)).cell (B32_at (bdig y) 31 (by decide)); rw [Hb31.out] at this; exact this
  go_wp2
  go_ret
  exact ⟨rfl, hK.2⟩
end Go.Proofs.YtfkcphbbabaefaaDoor
