/- A point's highest bit turned about. -/
import Derived.Test.YtaekpoiaigklgaaDoorCA
namespace Go.Proofs.YtaekpoiaigklgaaDoor
open Go.RowKit
/-- The highest bit turned about. -/
def flip (a : Nat) : Nat := a % HH + HH * (1 - a / HH)
theorem odd_L : LL = 2 * (LL / 2) + 1 := by decide
theorem side_zero {P : Pt E5} (h : Pt.times LL P = Pt.zero) (hx : P.x = 0) : P = Pt.zero := by
  have hn : P.neg = P := Pt.ext' (by show -P.x = P.x; rw [hx]; grind) rfl
  have h2 : Pt.times 2 P = Pt.zero := by
    rw [Pt.times_two]
    have := Pt.add_neg P
    rw [hn] at this
    exact this
  have h3 : Pt.times LL P = P := by
    rw [odd_L, Pt.times_succ, Pt.times_mul, h2, Pt.times_nought, Pt.zero_add]
  rw [← h3, h]
theorem enc_flip {P : Pt E5} (hx : P.x ≠ 0) : enc P.neg = flip (enc P) := by
  have h1 := odd_neg hx
  unfold flip
  rw [enc_y, enc_odd]
  show P.y.val + HH * ((-P.x).val % 2) = _
  have : (-P.x).val % 2 = 1 - P.x.val % 2 := by omega
  rw [this]
theorem flip_lt (a : Nat) : flip a < R256 := by
  have h1 := Nat.mod_lt a HH_pos
  have h2 : HH * (1 - a / HH) ≤ HH * 1 := Nat.mul_le_mul_left _ (Nat.sub_le _ _)
  have h3 := R256_HH
  unfold flip
  omega
theorem xor_top : ∀ x : Fin 256, x.val ^^^ 128 = if x.val < 128 then x.val + 128 else x.val - 128 := by decide +kernel
theorem flip_top {a : Nat} (ha : a < R256) : bits .xor .u8 (bdig a 31 : Int) 128 = (bdig (flip a) 31 : Int) := by
  have h0 := u8_xor_nat (bdig a 31) 128 (bdig_lt _ _) (by decide)
  have h1 := xor_top ⟨bdig a 31, bdig_lt _ _⟩
  have h2 := top_split ha
  have h3 := top_low (Nat.mod_lt a HH_pos)
  have h4 := half_lt ha
  have h5 := top_add (y := a % HH) (c := 1 - a / HH) (Nat.mod_lt a HH_pos) (by omega)
  have h6 : bdig (flip a) 31 = bdig a 31 ^^^ 128 := by
    unfold flip
    rw [h5]
    simp only at h1
    rw [h1]
    generalize a / HH = q at *
    split <;> omega
  rw [h6]
  exact h0
theorem B32_flip (a : Nat) : B32 (upd (bdig a) 31 (bdig (flip a) 31)) = B32 (bdig (flip a)) := B32_ext fun i hi => by
  by_cases e : i = 31
  · subst e; rw [upd_same]
  · rw [upd_other _ _ _ _ e]
    unfold flip
    rw [bdig_above_low _ _ i (by omega)]
    have := bdig_above_low (a % HH) (a / HH) i (by omega)
    rw [Nat.mod_add_div] at this
    exact this
/-- Nought with its highest bit set is no point. -/
theorem no_side (P : Pt E5) : enc P ≠ flip 1 := fun e => by
  have hy := enc_y P
  have ho := enc_odd P
  have e1 : flip 1 % HH = 1 := by decide
  have e2 : flip 1 / HH = 1 := by decide
  rw [e, e1] at hy
  rw [e, e2] at ho
  have h : P.y = (Pt.zero : Pt E5).y := Fin.ext hy.symm
  rcases on_sq h with h1 | h1
  · rw [h1] at ho; exact absurd ho (by decide)
  · rw [h1] at ho; exact absurd ho (by decide)
end Go.Proofs.YtaekpoiaigklgaaDoor
