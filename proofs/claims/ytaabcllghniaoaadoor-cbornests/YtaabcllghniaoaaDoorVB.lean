/- What the program's memory holds of UTF-8's tables; a word of eight bytes. -/
import Derived.Test.YtaabcllghniaoaaDoorBT
import Derived.Test.YtaabcllghniaoaaDoorVA
import Derived.Deep.QuietTactic
import Derived.BigQuiet
namespace Go.Proofs.YtaabcllghniaoaaDoor
open Go Go.RowKit
/-- Eight bytes, the lowest first, as a number. -/
def wordM (m : List Int) : Nat := (m.getD 0 0).toNat ||| (m.getD 1 0).toNat <<< 8 ||| (m.getD 2 0).toNat <<< 16 ||| (m.getD 3 0).toNat <<< 24 ||| (m.getD 4 0).toNat <<< 32 ||| (m.getD 5 0).toNat <<< 40 ||| (m.getD 6 0).toNat <<< 48 ||| (m.getD 7 0).toNat <<< 56
theorem shl_lt {y k : Nat} (h : y < 256) (hk : k ≤ 56) : y <<< k < 18446744073709551616 := by
  rw [Nat.shiftLeft_eq]
  have h1 : y * 2 ^ k ≤ 255 * 2 ^ 56 := Nat.mul_le_mul (by omega) (Nat.pow_le_pow_right (by decide) hk)
  have h2 : (255 : Nat) * 2 ^ 56 < 18446744073709551616 := by decide
  omega
theorem or_lt64 {a b : Nat} (ha : a < 18446744073709551616) (hb : b < 18446744073709551616) : a ||| b < 18446744073709551616 := Nat.or_lt_two_pow (n := 64) ha hb
theorem shl_wrap {y k : Nat} (h : y < 256) (hk : k ≤ 56) (c : Int) (hc : c = ((2 ^ k : Nat) : Int)) : IntKind.u64.wrap (IntKind.u64.wrap (y : Int) * c) = ((y <<< k : Nat) : Int) := by
  have h1 := shl_lt h hk
  rw [Nat.shiftLeft_eq] at h1 ⊢
  rw [hc, IntKind.wrap_u64, IntKind.wrap_u64, show ((y : Int) % 18446744073709551616) = (y : Int) by omega, ← Int.natCast_mul]
  generalize y * 2 ^ k = z at *
  omega
theorem or_nat {a b : Nat} (ha : a < 18446744073709551616) (hb : b < 18446744073709551616) : bits .or .u64 (a : Int) (b : Int) = ((a ||| b : Nat) : Int) := bits_or_u64_nat a b ha hb
theorem word_val {y0 y1 y2 y3 y4 y5 y6 y7 : Nat} (b0 : y0 < 256) (b1 : y1 < 256) (b2 : y2 < 256) (b3 : y3 < 256) (b4 : y4 < 256) (b5 : y5 < 256) (b6 : y6 < 256) (b7 : y7 < 256) :
    bits BinOp.or IntKind.u64 (bits BinOp.or IntKind.u64 (bits BinOp.or IntKind.u64 (bits BinOp.or IntKind.u64 (bits BinOp.or IntKind.u64 (bits BinOp.or IntKind.u64 (bits BinOp.or IntKind.u64 (IntKind.u64.wrap (y0 : Int)) (IntKind.u64.wrap (IntKind.u64.wrap (y1 : Int) * 256))) (IntKind.u64.wrap (IntKind.u64.wrap (y2 : Int) * 65536))) (IntKind.u64.wrap (IntKind.u64.wrap (y3 : Int) * 16777216))) (IntKind.u64.wrap (IntKind.u64.wrap (y4 : Int) * 4294967296))) (IntKind.u64.wrap (IntKind.u64.wrap (y5 : Int) * 1099511627776))) (IntKind.u64.wrap (IntKind.u64.wrap (y6 : Int) * 281474976710656))) (IntKind.u64.wrap (IntKind.u64.wrap (y7 : Int) * 72057594037927936))
      = ((y0 ||| y1 <<< 8 ||| y2 <<< 16 ||| y3 <<< 24 ||| y4 <<< 32 ||| y5 <<< 40 ||| y6 <<< 48 ||| y7 <<< 56 : Nat) : Int) := by
  have e0 : IntKind.u64.wrap (y0 : Int) = (y0 : Int) := by rw [IntKind.wrap_u64]; omega
  rw [e0, shl_wrap (k := 8) b1 (by decide) 256 (by decide), shl_wrap (k := 16) b2 (by decide) 65536 (by decide), shl_wrap (k := 24) b3 (by decide) 16777216 (by decide), shl_wrap (k := 32) b4 (by decide) 4294967296 (by decide), shl_wrap (k := 40) b5 (by decide) 1099511627776 (by decide), shl_wrap (k := 48) b6 (by decide) 281474976710656 (by decide), shl_wrap (k := 56) b7 (by decide) 72057594037927936 (by decide)]
  have h0 : y0 < 18446744073709551616 := by omega
  have h1 := or_lt64 h0 (shl_lt (k := 8) b1 (by decide))
  have h2 := or_lt64 h1 (shl_lt (k := 16) b2 (by decide))
  have h3 := or_lt64 h2 (shl_lt (k := 24) b3 (by decide))
  have h4 := or_lt64 h3 (shl_lt (k := 32) b4 (by decide))
  have h5 := or_lt64 h4 (shl_lt (k := 40) b5 (by decide))
  have h6 := or_lt64 h5 (shl_lt (k := 48) b6 (by decide))
  rw [or_nat h0 (shl_lt b1 (by decide)), or_nat h1 (shl_lt b2 (by decide)), or_nat h2 (shl_lt b3 (by decide)), or_nat h3 (shl_lt b4 (by decide)), or_nat h4 (shl_lt b5 (by decide)), or_nat h5 (shl_lt b6 (by decide)), or_nat h6 (shl_lt b7 (by decide))]
theorem byte_at {m : List Int} (hb : Bys m) (k : Nat) : (m.getD k 0).toNat < 256 ∧ m.getD k 0 = ((m.getD k 0).toNat : Int) := by
  by_cases h : k < m.length
  · have := hb (m.getD k 0) (by rw [show m.getD k 0 = m[k] by simp [List.getD, h]]; exact List.getElem_mem h)
    omega
  · rw [show m.getD k 0 = 0 by simp [List.getD, h]]
    exact ⟨by decide, rfl⟩
theorem wordM_lt {m : List Int} (hb : Bys m) : wordM m < 18446744073709551616 := by
  have hs := fun k (s : Nat) (h : s ≤ 56) => shl_lt (byte_at hb k).1 h
  exact or_lt64 (or_lt64 (or_lt64 (or_lt64 (or_lt64 (or_lt64 (or_lt64 (Nat.lt_trans (byte_at hb 0).1 (by decide)) (hs 1 8 (by decide))) (hs 2 16 (by decide))) (hs 3 24 (by decide))) (hs 4 32 (by decide))) (hs 5 40 (by decide))) (hs 6 48 (by decide))) (hs 7 56 (by decide))
/-- Where no byte of a word is of the upper half eight bytes are passed. -/
theorem wordM_skip {m : List Int} (hb : Bys m) (h8 : 8 ≤ m.length) (h : wordM m &&& 9259542123273814144 = 0) : utf8 m = utf8 (m.drop 8) := by
  have hk := fun k => byte_at hb k
  obtain ⟨h0, h1, h2, h3, h4, h5, h6, h7⟩ := word_low h (hk 0).1 (hk 1).1 (hk 2).1 (hk 3).1 (hk 4).1 (hk 5).1 (hk 6).1 (hk 7).1
  refine utf8_skip 8 m (fun j hj => ?_) h8
  rw [(hk j).2]
  have : j = 0 ∨ j = 1 ∨ j = 2 ∨ j = 3 ∨ j = 4 ∨ j = 5 ∨ j = 6 ∨ j = 7 := by omega
  rcases this with rfl | rfl | rfl | rfl | rfl | rfl | rfl | rfl <;> omega
set_option maxRecDepth 100000 in
set_option maxHeartbeats 1000000 in
theorem word_is {w : World} {a : Option Addr} {len cap : Nat} {m : List Int} (h : BytesV w a len cap m) (h8 : 8 ≤ len) : Calls Tryd.prog 35 #[.slice a len cap] w fun e w' => e = .returned (.int .u64 (wordM m)) ∧ ∃ n, w' = w.drewN n := by
  have l0 : (0 : Int) < (len : Int) := by omega
  have l1 : (1 : Int) < (len : Int) := by omega
  have l2 : (2 : Int) < (len : Int) := by omega
  have l3 : (3 : Int) < (len : Int) := by omega
  have l4 : (4 : Int) < (len : Int) := by omega
  have l5 : (5 : Int) < (len : Int) := by omega
  have l6 : (6 : Int) < (len : Int) := by omega
  have l7 : (7 : Int) < (len : Int) := by omega
  obtain ⟨b, off, rfl, c0⟩ := h.at 0 (by omega)
  obtain ⟨_, _, e, c1⟩ := h.at 1 (by omega); cases e
  obtain ⟨_, _, e, c2⟩ := h.at 2 (by omega); cases e
  obtain ⟨_, _, e, c3⟩ := h.at 3 (by omega); cases e
  obtain ⟨_, _, e, c4⟩ := h.at 4 (by omega); cases e
  obtain ⟨_, _, e, c5⟩ := h.at 5 (by omega); cases e
  obtain ⟨_, _, e, c6⟩ := h.at 6 (by omega); cases e
  obtain ⟨_, _, e, c7⟩ := h.at 7 (by omega); cases e
  have hb : Bys m := h.2.2.2.1
  unfold wordM
  obtain ⟨b0, e0⟩ := byte_at hb 0
  rw [e0] at c0
  obtain ⟨b1, e1⟩ := byte_at hb 1
  rw [e1] at c1
  obtain ⟨b2, e2⟩ := byte_at hb 2
  rw [e2] at c2
  obtain ⟨b3, e3⟩ := byte_at hb 3
  rw [e3] at c3
  obtain ⟨b4, e4⟩ := byte_at hb 4
  rw [e4] at c4
  obtain ⟨b5, e5⟩ := byte_at hb 5
  rw [e5] at c5
  obtain ⟨b6, e6⟩ := byte_at hb 6
  rw [e6] at c6
  obtain ⟨b7, e7⟩ := byte_at hb 7
  rw [e7] at c7
  clear e0
  generalize (m.getD 0 0).toNat = x0 at *
  clear e1
  generalize (m.getD 1 0).toNat = x1 at *
  clear e2
  generalize (m.getD 2 0).toNat = x2 at *
  clear e3
  generalize (m.getD 3 0).toNat = x3 at *
  clear e4
  generalize (m.getD 4 0).toNat = x4 at *
  clear e5
  generalize (m.getD 5 0).toNat = x5 at *
  clear e6
  generalize (m.getD 6 0).toNat = x6 at *
  clear e7
  generalize (m.getD 7 0).toNat = x7 at *
  have hv := show Hid _ from word_val b0 b1 b2 b3 b4 b5 b6 b7
  clear b0 b1 b2 b3 b4 b5 b6 b7 hb
  clear h h8
  rw [Nat.add_zero] at c0
  go_enter Tryd.func35, Tryd.ntmps35
  go_wp2_with fail
  go_quiet (fail)
  go_wp2_with fail
  go_ret
  exact ⟨by rw [hv.out]; rfl, _, rfl⟩
/-- What the tables say of a first byte of the upper half. -/
theorem ucls {x : Nat} (h1 : ¬ x < 128) (h2 : x < 256) : ∃ K : Nat, (ufst x : Int) / 16 = (K : Int) ∧ K < 16 ∧ ((bits .and .u8 (ufst x : Int) 7 = 1 ∧ ∀ r : List Int, utf8 ((x : Int) :: r) = false) ∨
    (bits .and .u8 (ufst x : Int) 7 = 2 ∧ ∀ r : List Int, utf8 ((x : Int) :: r) = if r.length < 1 then false else decide ((ulo K : Int) ≤ r.getD 0 0 ∧ r.getD 0 0 ≤ (uhi K : Int)) && utf8 (r.drop 1)) ∨
    (bits .and .u8 (ufst x : Int) 7 = 3 ∧ ∀ r : List Int, utf8 ((x : Int) :: r) = if r.length < 2 then false else decide (((ulo K : Int) ≤ r.getD 0 0 ∧ r.getD 0 0 ≤ (uhi K : Int)) ∧ 128 ≤ r.getD 1 0 ∧ r.getD 1 0 ≤ 191) && utf8 (r.drop 2)) ∨
    (bits .and .u8 (ufst x : Int) 7 = 4 ∧ ∀ r : List Int, utf8 ((x : Int) :: r) = if r.length < 3 then false else decide (((ulo K : Int) ≤ r.getD 0 0 ∧ r.getD 0 0 ≤ (uhi K : Int)) ∧ (128 ≤ r.getD 1 0 ∧ r.getD 1 0 ≤ 191) ∧ 128 ≤ r.getD 2 0 ∧ r.getD 2 0 ≤ 191) && utf8 (r.drop 3))) := by
  have hF : ∀ F, ufst x = F → (ufst x : Int) = (F : Int) := fun F h => by rw [h]
  by_cases c1 : x < 194
  · rw [hF 241 (by unfold ufst; rw [if_neg h1, if_pos c1])]
    exact ⟨15, rfl, by decide, .inl ⟨by decide, fun r => utf8_bad (by omega) r⟩⟩
  by_cases c2 : x < 224
  · rw [hF 2 (by unfold ufst; rw [if_neg h1, if_neg c1, if_pos c2])]
    exact ⟨0, rfl, by decide, .inr (.inl ⟨by decide, fun r => utf8_two (by omega) r⟩)⟩
  by_cases c3 : x = 224
  · rw [hF 19 (by unfold ufst; rw [if_neg h1, if_neg c1, if_neg c2, if_pos c3])]
    exact ⟨1, rfl, by decide, .inr (.inr (.inl ⟨by decide, fun r => utf8_three (by have hu := (show ulo 1 = 160 ∧ uhi 1 = 191 by decide); omega) r⟩))⟩
  by_cases c4 : x < 237
  · rw [hF 3 (by unfold ufst; rw [if_neg h1, if_neg c1, if_neg c2, if_neg c3, if_pos c4])]
    exact ⟨0, rfl, by decide, .inr (.inr (.inl ⟨by decide, fun r => utf8_three (by have hu := (show ulo 0 = 128 ∧ uhi 0 = 191 by decide); omega) r⟩))⟩
  by_cases c5 : x = 237
  · rw [hF 35 (by unfold ufst; rw [if_neg h1, if_neg c1, if_neg c2, if_neg c3, if_neg c4, if_pos c5])]
    exact ⟨2, rfl, by decide, .inr (.inr (.inl ⟨by decide, fun r => utf8_three (by have hu := (show ulo 2 = 128 ∧ uhi 2 = 159 by decide); omega) r⟩))⟩
  by_cases c6 : x < 240
  · rw [hF 3 (by unfold ufst; rw [if_neg h1, if_neg c1, if_neg c2, if_neg c3, if_neg c4, if_neg c5, if_pos c6])]
    exact ⟨0, rfl, by decide, .inr (.inr (.inl ⟨by decide, fun r => utf8_three (by have hu := (show ulo 0 = 128 ∧ uhi 0 = 191 by decide); omega) r⟩))⟩
  by_cases c7 : x = 240
  · rw [hF 52 (by unfold ufst; rw [if_neg h1, if_neg c1, if_neg c2, if_neg c3, if_neg c4, if_neg c5, if_neg c6, if_pos c7])]
    exact ⟨3, rfl, by decide, .inr (.inr (.inr ⟨by decide, fun r => utf8_four (by have hu := (show ulo 3 = 144 ∧ uhi 3 = 191 by decide); omega) r⟩))⟩
  by_cases c8 : x < 244
  · rw [hF 4 (by unfold ufst; rw [if_neg h1, if_neg c1, if_neg c2, if_neg c3, if_neg c4, if_neg c5, if_neg c6, if_neg c7, if_pos c8])]
    exact ⟨0, rfl, by decide, .inr (.inr (.inr ⟨by decide, fun r => utf8_four (by have hu := (show ulo 0 = 128 ∧ uhi 0 = 191 by decide); omega) r⟩))⟩
  by_cases c9 : x = 244
  · rw [hF 68 (by unfold ufst; rw [if_neg h1, if_neg c1, if_neg c2, if_neg c3, if_neg c4, if_neg c5, if_neg c6, if_neg c7, if_neg c8, if_pos c9])]
    exact ⟨4, rfl, by decide, .inr (.inr (.inr ⟨by decide, fun r => utf8_four (by have hu := (show ulo 4 = 128 ∧ uhi 4 = 143 by decide); omega) r⟩))⟩
  · rw [hF 241 (by unfold ufst; rw [if_neg h1, if_neg c1, if_neg c2, if_neg c3, if_neg c4, if_neg c5, if_neg c6, if_neg c7, if_neg c8, if_neg c9])]
    exact ⟨15, rfl, by decide, .inl ⟨by decide, fun r => utf8_bad (by omega) r⟩⟩
/-- UTF-8's tables, where the program keeps them. -/
def TU (w : World) : Prop := (0 < w.heap.size ∧ ∀ c, c < 256 → w.cell? ⟨0, c, none⟩ = some (.int .u8 (ufst c : Int))) ∧ 1 < w.heap.size ∧ ∀ k, k < 16 → w.cell? ⟨1, 2 * k, none⟩ = some (.int .u8 (ulo k : Int)) ∧ w.cell? ⟨1, 2 * k + 1, none⟩ = some (.int .u8 (uhi k : Int))
theorem TU.keep {w w' : World} (h : TU w) (hB : Below w.heap.size w w') : TU w' :=
  ⟨⟨Nat.lt_of_lt_of_le h.1.1 hB.size, fun c hc => by rw [hB.cell (p := ⟨_, c, none⟩) h.1.1]; exact h.1.2 c hc⟩, Nat.lt_of_lt_of_le h.2.1 hB.size, fun k hk => by rw [hB.cell (p := ⟨_, 2 * k, none⟩) h.2.1, hB.cell (p := ⟨_, 2 * k + 1, none⟩) h.2.1]; exact h.2.2 k hk⟩
theorem below_drewN (w : World) (n : Nat) : Below w.heap.size w (w.drewN n) := by
  exact ⟨rfl, rfl, rfl, Nat.le_refl _, fun _ _ => rfl⟩
end Go.Proofs.YtaabcllghniaoaaDoor
