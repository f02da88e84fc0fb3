/- The field of 2^255 - 19: inverses, powers, roots, as facts on whole numbers. -/
import Derived.Test.YtofoihebhdpjlaaDoorN2
namespace Go.Proofs.YtofoihebhdpjlaaDoor

theorem pp_pos : 0 < pp := by decide
theorem pp_two : 2 < pp := by decide
theorem one_mod : 1 % pp = 1 := by decide
theorem pp_dvd_iff {a : Nat} : pp ∣ a ↔ a % pp = 0 := Nat.dvd_iff_mod_eq_zero ..
theorem zero_pow_mod (a k m : Nat) (hk : 0 < k) (h : a % m = 0) : a ^ k % m = 0 := by rw [Nat.pow_mod, h, Nat.zero_pow hk, Nat.zero_mod]
/-- The inverse: the power p - 2. -/
def finv (a : Nat) : Nat := a ^ (pp - 2) % pp
theorem finv_lt (a : Nat) : finv a < pp := Nat.mod_lt _ pp_pos
theorem finv_mod (a : Nat) : finv (a % pp) = finv a := by unfold finv; rw [← Nat.pow_mod]
theorem finv_mul {a : Nat} (h : a % pp ≠ 0) : a * finv a % pp = 1 := by
  unfold finv
  have := pp_prime.fermat1 (a := a) (fun hd => h (pp_dvd_iff.1 hd))
  rw [one_mod] at this
  rw [Nat.mul_mod, Nat.mod_mod, ← Nat.mul_mod, Nat.mul_comm, ← Nat.pow_succ, show (pp - 2).succ = pp - 1 from by have := pp_two; omega]
  exact this
theorem finv_zero {a : Nat} (h : a % pp = 0) : finv a = 0 := by
  unfold finv; exact zero_pow_mod a _ _ (by have := pp_two; omega) h
theorem mod_cancel' {a b c : Nat} (ha : a % pp ≠ 0) (he : a * b % pp = a * c % pp) : b % pp = c % pp := mod_cancel pp_prime (fun hd => ha (pp_dvd_iff.1 hd)) he
theorem finv_ne {a : Nat} (h : a % pp ≠ 0) : finv a % pp ≠ 0 := fun e => by
  have := finv_mul h
  rw [Nat.mul_mod, e, Nat.mul_zero, Nat.zero_mod] at this
  omega
theorem finv_finv (a : Nat) : finv (finv a) = a % pp := by
  by_cases h : a % pp = 0
  · rw [finv_zero h, h]; exact finv_zero (Nat.zero_mod _)
  · have h1 := finv_mul h
    have h2 := finv_mul (finv_ne h)
    have h3 : finv a * a % pp = finv a * finv (finv a) % pp := by rw [h2, Nat.mul_comm, h1]
    have := mod_cancel' (finv_ne h) h3
    rw [this, Nat.mod_eq_of_lt (finv_lt _)]
theorem finv_prod (a b : Nat) : finv (a * b) = finv a * finv b % pp := by
  unfold finv; rw [Nat.mul_pow, Nat.mul_mod]
/-- An inverse is the one number whose product is 1. -/
theorem finv_unique {a x : Nat} (hx : x < pp) (h : a * x % pp = 1) : x = finv a := by
  have ha : a % pp ≠ 0 := fun e => by
    rw [Nat.mul_mod, e, Nat.zero_mul, Nat.zero_mod] at h; omega
  have := mod_cancel' ha (h.trans (finv_mul ha).symm)
  rwa [Nat.mod_eq_of_lt hx, Nat.mod_eq_of_lt (finv_lt a)] at this
theorem pow_255 (a : Nat) : a ^ (2 ^ 255) % pp = a ^ 20 % pp := by
  have e : 2 ^ 255 = pp + 19 := by decide
  rw [e, Nat.pow_add, Nat.mul_mod, pp_prime.fermat a, ← Nat.mul_mod, Nat.mul_comm, ← Nat.pow_succ]

/-- The root of -1. -/
def fi : Nat := 19681161376707505956807079304988542015446066515923890162744021073123829784752
theorem fi_sq : fi * fi % pp = pp - 1 := by decide +kernel
theorem fi_lt : fi < pp := by decide +kernel
theorem fi_pow : fi = 2 ^ ((pp - 1) / 4) % pp := by
  rw [← pw_spec pp 256 2 ((pp - 1) / 4) (by decide)]; decide +kernel
theorem sub_mul_self (x y : Nat) : (x - y) * (x + y) = x * x - y * y := by
  rw [Nat.mul_comm, ← Nat.mul_self_sub_mul_self_eq]
/-- Squares are the same only of a number and of its other side. -/
theorem sq_eq {x y : Nat} (h : x * x % pp = y * y % pp) : x % pp = y % pp ∨ (x + y) % pp = 0 := by
  rcases Nat.le_total y x with hle | hle
  · have hd : pp ∣ (x - y) * (x + y) := by
      rw [sub_mul_self x y]
      exact pp_dvd_iff.2 (Nat.sub_mod_eq_zero_of_mod_eq h)
    rcases pp_prime.euclid hd with ⟨d, hd⟩ | hd
    · left
      rw [show x = y + pp * d by omega, Nat.add_mul_mod_self_left]
    · right; exact pp_dvd_iff.1 hd
  · have hd : pp ∣ (y - x) * (y + x) := by
      rw [sub_mul_self y x]
      exact pp_dvd_iff.2 (Nat.sub_mod_eq_zero_of_mod_eq h.symm)
    rcases pp_prime.euclid hd with ⟨d, hd⟩ | hd
    · left
      rw [show y = x + pp * d by omega, Nat.add_mul_mod_self_left]
    · right; rw [Nat.add_comm]; exact pp_dvd_iff.1 hd
/-- The even one of the roots. -/
def IsRoot (a r : Nat) : Prop := r < pp ∧ r % 2 = 0 ∧ r * r % pp = a % pp
theorem pp_odd : pp % 2 = 1 := by decide
theorem root_unique {a r s : Nat} (hr : IsRoot a r) (hs : IsRoot a s) : r = s := by
  obtain ⟨r1, r2, r3⟩ := hr
  obtain ⟨s1, s2, s3⟩ := hs
  rcases sq_eq (r3.trans s3.symm) with h | h
  · rwa [Nat.mod_eq_of_lt r1, Nat.mod_eq_of_lt s1] at h
  · have hp := pp_odd
    obtain ⟨c, hc⟩ := pp_dvd_iff.2 h
    have hlt : r + s < pp * 2 := by omega
    have : c < 2 := by
      rcases Nat.lt_or_ge c 2 with h | h
      · exact h
      · have : pp * 2 ≤ pp * c := Nat.mul_le_mul_left _ h
        omega
    rcases (show c = 0 ∨ c = 1 by omega) with rfl | rfl <;> omega
theorem neg_sq {x : Nat} (h : x ≤ pp) : (pp - x) * (pp - x) % pp = x * x % pp := by
  have hd : pp ∣ (pp - x + x) * (pp - x) := ⟨pp - x, by rw [Nat.sub_add_cancel h]⟩
  have hd2 : pp ∣ (pp - x + x) * x := ⟨x, by rw [Nat.sub_add_cancel h]⟩
  obtain ⟨c, hc⟩ := hd
  obtain ⟨d, hd⟩ := hd2
  rw [Nat.add_mul] at hc hd
  generalize hA : (pp - x) * (pp - x) = A at *
  generalize hB : x * (pp - x) = B at *
  rw [Nat.mul_comm (pp - x) x, hB] at hd
  generalize hC : x * x = C at *
  have e : A + pp * d = C + pp * c := by omega
  have := congrArg (· % pp) e
  simpa [Nat.add_mul_mod_self_left] using this
/-- The even one of x and its other side. -/
def evenOf (x : Nat) : Nat := if x % 2 = 1 then pp - x else x
theorem evenOf_root {a x : Nat} (hx : x < pp) (h : x * x % pp = a % pp) : IsRoot a (evenOf x) := by
  unfold evenOf
  have hp := pp_odd
  split
  · exact ⟨by omega, by omega, by rw [neg_sq (by omega)]; exact h⟩
  · exact ⟨hx, by omega, h⟩
/-- Of a square s the power (p + 3) / 8 is a root of s, or of its other side. -/
theorem root_try (a : Nat) (h : ∃ y, y * y % pp = a % pp) : let r := a ^ ((pp + 3) / 8) % pp
    r * r % pp = a % pp ∨ (r * fi % pp) * (r * fi % pp) % pp = a % pp := by
  intro r
  obtain ⟨y, hy⟩ := h
  by_cases hz : a % pp = 0
  · left
    have : r = 0 := zero_pow_mod a _ _ (by decide) hz
    rw [this, hz, Nat.zero_mul, Nat.zero_mod]
  · have hyz : y % pp ≠ 0 := fun e => hz (by rw [← hy, Nat.mul_mod, e, Nat.mul_zero, Nat.zero_mod])
    have hf := pp_prime.fermat1 (a := y) (fun hd => hyz (pp_dvd_iff.1 hd))
    -- a^((p - 1) / 2) is 1
    have ha : a ^ ((pp - 1) / 2) % pp = 1 % pp := by
      rw [Nat.pow_mod, ← hy, ← Nat.pow_mod, ← Nat.pow_two, ← Nat.pow_mul, show 2 * ((pp - 1) / 2) = pp - 1 by decide]
      exact hf
    have hr : r % pp = a ^ ((pp + 3) / 8) % pp := Nat.mod_mod _ _
    have h2 : r * r % pp = a ^ ((pp + 3) / 4) % pp := by
      rw [Nat.mul_mod, hr, ← Nat.mul_mod, ← Nat.pow_add, show (pp + 3) / 8 + (pp + 3) / 8 = (pp + 3) / 4 by decide]
    have h4 : (r * r) * (r * r) % pp = a * a % pp := by
      rw [Nat.mul_mod, h2, ← Nat.mul_mod, ← Nat.pow_add, show (pp + 3) / 4 + (pp + 3) / 4 = (pp - 1) / 2 + 2 by decide, Nat.pow_add, Nat.mul_mod, ha, ← Nat.mul_mod, Nat.one_mul, Nat.pow_two]
    rcases sq_eq h4 with h | h
    · exact .inl h
    · right
      have e1 : (r * fi % pp) * (r * fi % pp) % pp = (r * r) * (fi * fi) % pp := by
        rw [← Nat.mul_mod, Nat.mul_assoc, Nat.mul_left_comm fi r fi, ← Nat.mul_assoc]
      rw [e1, Nat.mul_mod, fi_sq]
      have e2 : (r * r % pp * (pp - 1) + r * r % pp) % pp = 0 := by
        rw [← Nat.mul_succ, show (pp - 1).succ = pp from by decide, Nat.mul_mod_left]
      have h' : (r * r % pp + a) % pp = 0 := by rw [Nat.mod_add_mod]; exact h
      -- both have r r added to nought
      have e3 : (r * r % pp * (pp - 1) + (r * r % pp + a)) % pp = a % pp := by
        rw [← Nat.add_assoc, Nat.add_mod, e2, Nat.zero_add, Nat.mod_mod]
      rw [Nat.add_mod, h', Nat.add_zero, Nat.mod_mod] at e3
      exact e3
/-- The page's root: what it tries, in its order. -/
def froot (a : Nat) : Option Nat :=
  let r := a ^ ((pp + 3) / 8) % pp
  if r * r % pp = a % pp then some (evenOf r)
  else if (r * fi % pp) * (r * fi % pp) % pp = a % pp then some (evenOf (r * fi % pp)) else none
theorem froot_some {a x : Nat} (h : froot a = some x) : IsRoot a x := by
  unfold froot at h
  simp only at h
  split at h
  · rename_i h1
    obtain rfl := Option.some.inj h
    exact evenOf_root (Nat.mod_lt _ pp_pos) h1
  · split at h
    · rename_i h1
      obtain rfl := Option.some.inj h
      exact evenOf_root (Nat.mod_lt _ pp_pos) h1
    · cases h
theorem froot_none {a : Nat} (h : froot a = none) : ∀ y, y * y % pp ≠ a % pp := fun y hy => by
  have := root_try a ⟨y, hy⟩
  unfold froot at h
  simp only at h this
  split at h
  · cases h
  · split at h
    · cases h
    · rename_i h1 h2
      exact this.elim h1 h2
/-- Of a square there is a root: the number, or its other side. -/
theorem froot_sq (a : Nat) : ∃ z, froot (a * a) = some z ∧ (z = a % pp ∨ z = (pp - a % pp) % pp) := by
  cases h : froot (a * a) with
  | none => exact absurd rfl (froot_none h a)
  | some z =>
    refine ⟨z, rfl, ?_⟩
    obtain ⟨h1, _, h3⟩ := froot_some h
    have hlt := Nat.mod_lt a pp_pos
    rcases sq_eq h3 with h | h
    · left; rwa [Nat.mod_eq_of_lt h1] at h
    · right
      rw [← Nat.add_mod_mod] at h
      obtain ⟨c, hc⟩ := pp_dvd_iff.2 h
      have : c < 2 := by
        rcases Nat.lt_or_ge c 2 with h | h
        · exact h
        · have : pp * 2 ≤ pp * c := Nat.mul_le_mul_left _ h
          omega
      rcases (show c = 0 ∨ c = 1 by omega) with rfl | rfl
      · have : a % pp = 0 := by omega
        rw [this, Nat.sub_zero, Nat.mod_self]; omega
      · rw [Nat.mod_eq_of_lt (by omega)]; omega
end Go.Proofs.YtofoihebhdpjlaaDoor
