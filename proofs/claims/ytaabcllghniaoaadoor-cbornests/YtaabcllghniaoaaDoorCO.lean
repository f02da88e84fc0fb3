/- Which of two texts, of two heads, is ahead. -/
import Derived.Test.YtaabcllghniaoaaDoorHD
namespace Go.Proofs.YtaabcllghniaoaaDoor
/-- Which of two rows of bytes is ahead. -/
def ahead : List Int → List Int → Bool
  | _, [] => false
  | [], _ :: _ => true
  | a :: x, b :: y => decide (a < b) || (decide (a = b) && ahead x y)
theorem ahead_be (n k : Nat) : ∀ s, ahead (be n s) (be k s) = decide (n % 256 ^ s < k % 256 ^ s)
  | 0 => by rw [be, be, ahead, Nat.pow_zero, Nat.mod_one, Nat.mod_one]; rfl
  | s + 1 => by
    rw [be, be, ahead, ahead_be n k s, Nat.pow_succ, Nat.mod_mul, Nat.mod_mul]
    have hn := Nat.mod_lt n (show 0 < 256 ^ s from Nat.pow_pos (by decide))
    have hk := Nat.mod_lt k (show 0 < 256 ^ s from Nat.pow_pos (by decide))
    generalize n / 256 ^ s % 256 = p
    generalize k / 256 ^ s % 256 = q
    generalize n % 256 ^ s = u at *
    generalize k % 256 ^ s = v at *
    generalize 256 ^ s = M at *
    rcases Nat.lt_trichotomy p q with h | h | h
    · have : M * (p + 1) ≤ M * q := Nat.mul_le_mul_left _ h
      rw [Nat.mul_add, Nat.mul_one] at this
      rw [decide_eq_true (by omega), decide_eq_true (show u + M * p < v + M * q by omega)]
      rfl
    · subst h
      rw [decide_eq_false (by omega), decide_eq_true rfl, Bool.false_or, Bool.true_and, decide_eq_decide]
      omega
    · have : M * (q + 1) ≤ M * p := Nat.mul_le_mul_left _ h
      rw [Nat.mul_add, Nat.mul_one] at this
      rw [decide_eq_false (by omega), decide_eq_false (show ¬ (p : Int) = (q : Int) by omega), decide_eq_false (show ¬ u + M * p < v + M * q by omega)]
      rfl
theorem low_class (n k : Nat) : (hlow n < hlow k → n < k) ∧ (hlow n = hlow k → hsize n = hsize k ∧ (n < 24 → n = k)) := by
  unfold hlow hsize
  refine ⟨fun h => ?_, fun h => ⟨?_, fun h1 => ?_⟩⟩
  · repeat' split at h
    all_goals omega
  · repeat' split
    all_goals (first | rfl | (simp_all <;> omega))
  · rw [if_pos h1] at h
    repeat' split at h
    all_goals omega
theorem ahead_hd {mj n k : Nat} (hn : n < 9223372036854775808) (hk : k < 9223372036854775808) : ahead (hd mj n) (hd mj k) = decide (n < k) := by
  obtain ⟨h1, h2⟩ := low_class n k
  obtain ⟨h3, h4⟩ := low_class k n
  rw [hd, hd, ahead]
  rcases Nat.lt_trichotomy (hlow n) (hlow k) with h | h | h
  · rw [decide_eq_true (by omega), decide_eq_true (h1 h)]
    rfl
  · obtain ⟨e, e2⟩ := h2 h
    rw [h, e, decide_eq_false (by omega), decide_eq_true rfl, Bool.false_or, Bool.true_and, ahead_be, decide_eq_decide]
    rcases hd_lt hn with h5 | h5
    · rw [e] at h5
      rcases hd_lt hk with h6 | h6
      · rw [Nat.mod_eq_of_lt h5, Nat.mod_eq_of_lt h6]
      · have := (h4 h.symm).2 h6
        subst this
        omega
    · have := e2 h5
      subst this
      omega
  · have := h3 h
    rw [decide_eq_false (by omega), decide_eq_false (show ¬ ((32 * mj + hlow n : Nat) : Int) = ((32 * mj + hlow k : Nat) : Int) by omega), decide_eq_false (show ¬ n < k by omega)]
    rfl
theorem hd_inj {mj n k : Nat} (hn : n < 9223372036854775808) (hk : k < 9223372036854775808) (h : hd mj n = hd mj k) : n = k := by
  have h1 := hget_hd (major := mj) hn []
  have h2 := hget_hd (major := mj) hk []
  rw [h, h2] at h1
  simp only [Option.some.injEq, Prod.mk.injEq] at h1
  exact h1.2.1.symm
theorem ahead_tri : ∀ (x y : List Int), (ahead x y = true ∧ ahead y x = false ∧ x ≠ y) ∨ (x = y ∧ ahead x y = false ∧ ahead y x = false) ∨ (ahead y x = true ∧ ahead x y = false ∧ x ≠ y)
  | [], [] => .inr (.inl ⟨rfl, rfl, rfl⟩)
  | [], b :: y => .inl ⟨rfl, rfl, by simp⟩
  | a :: x, [] => .inr (.inr ⟨rfl, rfl, by simp⟩)
  | a :: x, b :: y => by
    rw [ahead, ahead]
    rcases Int.lt_trichotomy a b with h | h | h
    · refine .inl ⟨?_, ?_, fun e => ?_⟩
      · rw [decide_eq_true h]; rfl
      · rw [decide_eq_false (by omega), decide_eq_false (by omega)]; rfl
      · have := (List.cons.inj e).1; omega
    · subst h
      rw [decide_eq_false (by omega), decide_eq_true rfl, Bool.false_or, Bool.true_and, Bool.false_or, Bool.true_and]
      rcases ahead_tri x y with ⟨h1, h2, h3⟩ | ⟨h1, h2, h3⟩ | ⟨h1, h2, h3⟩
      · exact .inl ⟨h1, h2, fun e => h3 (List.cons.inj e).2⟩
      · exact .inr (.inl ⟨by rw [h1], h2, h3⟩)
      · exact .inr (.inr ⟨h1, h2, fun e => h3 (List.cons.inj e).2⟩)
    · refine .inr (.inr ⟨?_, ?_, fun e => ?_⟩)
      · rw [decide_eq_true h]; rfl
      · rw [decide_eq_false (by omega), decide_eq_false (by omega)]; rfl
      · have := (List.cons.inj e).1; omega
end Go.Proofs.YtaabcllghniaoaaDoor
