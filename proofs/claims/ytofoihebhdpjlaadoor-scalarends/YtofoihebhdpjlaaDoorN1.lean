/- Whole numbers: primes, Fermat's theorem, and how a great number is shown to be a prime. -/
import Derived.KernelRfl
namespace Go.Proofs.YtofoihebhdpjlaaDoor

/-- A prime. -/
def Pr (p : Nat) : Prop := 2 ≤ p ∧ ∀ d, d ∣ p → d = 1 ∨ d = p
theorem Pr.euclid {p a b : Nat} (h : Pr p) (hd : p ∣ a * b) : p ∣ a ∨ p ∣ b := by
  rcases h.2 (Nat.gcd p a) (Nat.gcd_dvd_left p a) with e | e
  · exact .inr (Nat.Coprime.dvd_of_dvd_mul_left e hd)
  · exact .inl (e ▸ Nat.gcd_dvd_right p a)
theorem Pr.pow {p a : Nat} (h : Pr p) : ∀ n, p ∣ a ^ n → p ∣ a
  | 0, hd => by
    rw [Nat.pow_zero] at hd
    have := Nat.le_of_dvd (by decide) hd
    have := h.1
    omega
  | n + 1, hd => by
    rw [Nat.pow_succ] at hd
    exact (h.euclid hd).elim (h.pow n) id
/-- Each number beyond 1 has a prime that divides it. -/
theorem prime_dvd (n : Nat) (hn : 2 ≤ n) : ∃ r, Pr r ∧ r ∣ n := by
  induction n using Nat.strongRecOn with
  | ind n ih =>
    by_cases h : ∀ d, d ∣ n → d = 1 ∨ d = n
    · exact ⟨n, ⟨hn, h⟩, Nat.dvd_refl n⟩
    · have ⟨d, hd⟩ : ∃ d, ¬ (d ∣ n → d = 1 ∨ d = n) := Classical.byContradiction fun hc => h fun d => Classical.byContradiction fun hc' => hc ⟨d, hc'⟩
      have h1 : d ∣ n := Classical.byContradiction fun hc => hd fun h => absurd h hc
      have h2 : d ≠ 1 := fun e => hd fun _ => .inl e
      have h3 : d ≠ n := fun e => hd fun _ => .inr e
      have hle := Nat.le_of_dvd (by omega) h1
      have h0 : d ≠ 0 := fun e => by
        subst e
        have := Nat.eq_zero_of_zero_dvd h1
        omega
      obtain ⟨r, hr, hrd⟩ := ih d (by omega) (by omega)
      exact ⟨r, hr, Nat.dvd_trans hrd h1⟩
/-- A number that is no prime has a prime divisor whose square is no greater. -/
theorem prime_of_small (n : Nat) (hn : 2 ≤ n) (h : ∀ r, Pr r → r ∣ n → n < r * r) : Pr n := by
  refine ⟨hn, fun d hd => ?_⟩
  obtain ⟨e, he⟩ := hd
  have hd0 : d ≠ 0 := fun z => by rw [z, Nat.zero_mul] at he; omega
  have he0 : e ≠ 0 := fun z => by rw [z, Nat.mul_zero] at he; omega
  by_cases h1 : d = 1
  · exact .inl h1
  · by_cases h2 : e = 1
    · exact .inr (by rw [he, h2, Nat.mul_one])
    · exfalso
      rcases Nat.le_total d e with hde | hde
      · obtain ⟨r, hr, hrd⟩ := prime_dvd d (by omega)
        have := h r hr (Nat.dvd_trans hrd ⟨e, he⟩)
        have hle := Nat.le_of_dvd (by omega) hrd
        have : r * r ≤ d * e := Nat.mul_le_mul hle (Nat.le_trans hle hde)
        omega
      · obtain ⟨r, hr, hrd⟩ := prime_dvd e (by omega)
        have := h r hr (Nat.dvd_trans hrd ⟨d, by rw [Nat.mul_comm]; exact he⟩)
        have hle := Nat.le_of_dvd (by omega) hrd
        have : r * r ≤ d * e := Nat.mul_le_mul (Nat.le_trans hle hde) hle
        omega

/-- Pascal's numbers. -/
def ch : Nat → Nat → Nat
  | _, 0 => 1
  | 0, _ + 1 => 0
  | n + 1, k + 1 => ch n k + ch n (k + 1)
theorem ch_zero (n : Nat) : ch n 0 = 1 := by cases n <;> rfl
theorem ch_succ (n k : Nat) : ch (n + 1) (k + 1) = ch n k + ch n (k + 1) := rfl
theorem ch_big : ∀ n k, n < k → ch n k = 0
  | 0, k + 1, _ => rfl
  | n + 1, k + 1, h => by rw [ch_succ, ch_big n k (by omega), ch_big n (k + 1) (by omega)]
theorem ch_self : ∀ n, ch n n = 1
  | 0 => rfl
  | n + 1 => by rw [ch_succ, ch_self n, ch_big n (n + 1) (by omega)]
theorem ch_mul : ∀ n k, (k + 1) * ch (n + 1) (k + 1) = (n + 1) * ch n k
  | 0, 0 => rfl
  | 0, k + 1 => by rw [ch_big 1 (k + 2) (by omega), ch_big 0 (k + 1) (by omega), Nat.mul_zero, Nat.mul_zero]
  | n + 1, 0 => by
    have ih := ch_mul n 0
    rw [ch_succ, ch_zero, Nat.mul_add]
    rw [ch_zero] at ih
    omega
  | n + 1, k + 1 => by
    have h1 := ch_mul n k
    have h2 := ch_mul n (k + 1)
    have e1 : ch (n + 1) (k + 1) = ch n k + ch n (k + 1) := ch_succ n k
    have e2 : ch (n + 1 + 1) (k + 1 + 1) = ch (n + 1) (k + 1) + ch (n + 1) (k + 1 + 1) := ch_succ (n + 1) (k + 1)
    rw [e2]
    generalize ch (n + 1) (k + 1) = A at *
    generalize ch (n + 1) (k + 1 + 1) = B at *
    generalize ch n k = C at *
    generalize ch n (k + 1) = D at *
    subst e1
    have f1 : (k + 1 + 1) * ((C + D) + B) = ((k + 1) * (C + D) + (C + D)) + (k + 1 + 1) * B := by
      rw [Nat.mul_add, Nat.add_mul (k + 1) 1 (C + D), Nat.one_mul]
    have f2 : (n + 1 + 1) * (C + D) = ((n + 1) * C + (n + 1) * D) + (C + D) := by
      rw [Nat.add_mul (n + 1) 1 (C + D), Nat.one_mul, Nat.mul_add]
    rw [f1, f2, h1, h2]
    omega
theorem Pr.ch {p k : Nat} (h : Pr p) (h0 : 0 < k) (hk : k < p) : p ∣ ch p k := by
  obtain ⟨j, rfl⟩ : ∃ j, k = j + 1 := ⟨k - 1, by omega⟩
  obtain ⟨n, rfl⟩ : ∃ n, p = n + 1 := ⟨p - 1, by have := h.1; omega⟩
  have hd : (n + 1) ∣ (j + 1) * Go.Proofs.YtofoihebhdpjlaaDoor.ch (n + 1) (j + 1) := ⟨_, ch_mul n j⟩
  rcases h.euclid hd with h1 | h1
  · have := Nat.le_of_dvd (by omega) h1
    omega
  · exact h1
/-- The first k terms of (a + 1)^n. -/
def bin (a n : Nat) : Nat → Nat
  | 0 => 0
  | k + 1 => bin a n k + ch n k * a ^ k
theorem bin_step (a n : Nat) : ∀ k, bin a (n + 1) (k + 1) = a * bin a n k + bin a n (k + 1)
  | 0 => by
    simp only [bin, ch_zero, Nat.pow_zero, Nat.mul_zero]
  | k + 1 => by
    rw [bin, bin_step a n k, ch_succ, bin, bin, bin]
    rw [Nat.add_mul, Nat.mul_add, Nat.pow_succ]
    generalize bin a n k = A
    have e : a * (ch n k * a ^ k) = ch n k * (a ^ k * a) := by
      rw [Nat.mul_comm a, Nat.mul_assoc]
    rw [e]
    omega
theorem binomial (a : Nat) : ∀ n, (a + 1) ^ n = bin a n (n + 1)
  | 0 => by simp [bin, ch]
  | n + 1 => by
    rw [Nat.pow_succ, binomial a n, bin_step a n (n + 1)]
    have e : bin a n (n + 1 + 1) = bin a n (n + 1) := by rw [bin, ch_big n (n + 1) (by omega), Nat.zero_mul, Nat.add_zero]
    rw [e, Nat.mul_add, Nat.mul_one, Nat.mul_comm a]
theorem bin_mod {p : Nat} (h : Pr p) (a : Nat) : ∀ k, k < p → bin a p (k + 1) % p = 1 % p
  | 0, _ => by simp [bin, ch_zero]
  | k + 1, hk => by
    obtain ⟨c, hc⟩ := h.ch (k := k + 1) (by omega) hk
    rw [bin, hc, Nat.mul_assoc, Nat.add_mul_mod_self_left]
    exact bin_mod h a k (by omega)
/-- Fermat's theorem. -/
theorem Pr.fermat {p : Nat} (h : Pr p) : ∀ a, a ^ p % p = a % p
  | 0 => by
    have := h.1
    rw [Nat.zero_pow (by omega)]
  | a + 1 => by
    have h2 := h.1
    rw [binomial]
    have e : bin a p (p + 1) = bin a p p + a ^ p := by rw [bin, ch_self, Nat.one_mul]
    have e2 := bin_mod h a (p - 1) (by omega)
    rw [Nat.sub_add_cancel (by omega)] at e2
    rw [e, Nat.add_mod, e2, h.fermat a, ← Nat.add_mod, Nat.add_comm]
theorem mod_cancel {p a b c : Nat} (h : Pr p) (ha : ¬ p ∣ a) (he : a * b % p = a * c % p) : b % p = c % p := by
  rcases Nat.le_total b c with hbc | hbc
  · have hd : p ∣ a * c - a * b := (Nat.dvd_iff_mod_eq_zero ..).2 (Nat.sub_mod_eq_zero_of_mod_eq he.symm)
    rw [← Nat.mul_sub] at hd
    obtain ⟨d, hd⟩ := (h.euclid hd).resolve_left ha
    have : c = b + p * d := by omega
    rw [this, Nat.add_mul_mod_self_left]
  · have hd : p ∣ a * b - a * c := (Nat.dvd_iff_mod_eq_zero ..).2 (Nat.sub_mod_eq_zero_of_mod_eq he)
    rw [← Nat.mul_sub] at hd
    obtain ⟨d, hd⟩ := (h.euclid hd).resolve_left ha
    have : b = c + p * d := by omega
    rw [this, Nat.add_mul_mod_self_left]
theorem Pr.fermat1 {p a : Nat} (h : Pr p) (ha : ¬ p ∣ a) : a ^ (p - 1) % p = 1 % p := by
  refine mod_cancel h ha ?_
  rw [Nat.mul_one, Nat.mul_comm, ← Nat.pow_succ, show (p - 1).succ = p by have := h.1; omega]
  exact h.fermat a
theorem pow_one_mod {r a m : Nat} (h : a ^ m % r = 1 % r) (k : Nat) : a ^ (m * k) % r = 1 % r := by
  rw [Nat.pow_mul, Nat.pow_mod, h, ← Nat.pow_mod, Nat.one_pow]
theorem pow_gcd {r a : Nat} (m n : Nat) : a ^ m % r = 1 % r → a ^ n % r = 1 % r → a ^ Nat.gcd m n % r = 1 % r := by
  induction m, n using Nat.gcd.induction with
  | H0 n => intro _ h; rw [Nat.gcd_zero_left]; exact h
  | H1 m n hm ih =>
    intro h1 h2
    rw [Nat.gcd_rec]
    refine ih ?_ h1
    have e : a ^ n = a ^ (m * (n / m)) * a ^ (n % m) := by rw [← Nat.pow_add, Nat.div_add_mod]
    rw [e, Nat.mul_mod, pow_one_mod h1, ← Nat.mul_mod, Nat.one_mul] at h2
    exact h2
/-- What a prime q of n - 1 tells of each prime divisor r of n. -/
theorem pock_step {n q r h a : Nat} (hq : Pr q) (hn : n - 1 = h * q) (h1 : a ^ (n - 1) % n = 1 % n) (hc : Nat.Coprime (a ^ h % n + (n - 1)) n) (hn2 : 2 ≤ n) (hr : Pr r) (hrn : r ∣ n) : q ∣ r - 1 := by
  have hr2 := hr.1
  obtain ⟨c, hc'⟩ := hrn
  have modr : ∀ x y, x % n = y % n → x % r = y % r := fun x y e => by
    have := congrArg (· % r) e
    simp only [hc', Nat.mod_mul_right_mod] at this
    exact this
  have hb : (a ^ h) ^ q % r = 1 % r := by
    rw [← Nat.pow_mul, ← hn]; exact modr _ _ h1
  have hrb : ¬ r ∣ a ^ h := fun hd => by
    have : r ∣ (a ^ h) ^ q := Nat.dvd_trans hd ⟨(a ^ h) ^ (q - 1), by rw [Nat.mul_comm, ← Nat.pow_succ, show (q - 1).succ = q by have := hq.1; omega]⟩
    rw [Nat.mod_eq_zero_of_dvd this, Nat.mod_eq_of_lt (by omega)] at hb
    omega
  have hg := pow_gcd q (r - 1) hb (hr.fermat1 hrb)
  rcases hq.2 (Nat.gcd q (r - 1)) (Nat.gcd_dvd_left _ _) with e | e
  · exfalso
    rw [e, Nat.pow_one] at hg
    have hd : r ∣ a ^ h % n + (n - 1) := by
      apply Nat.dvd_of_mod_eq_zero
      have e1 : a ^ h % n % r = 1 % r := by rw [hc', Nat.mod_mul_right_mod]; exact hg
      rw [Nat.add_mod, e1, ← Nat.add_mod, show 1 + (n - 1) = n by omega, hc', Nat.mul_mod_right]
    have := Nat.dvd_gcd hd ⟨c, hc'⟩
    rw [hc] at this
    have := Nat.le_of_dvd (by decide) this
    omega
  · exact e ▸ Nat.gcd_dvd_right q (r - 1)
/-- A number with one great prime q in n - 1. -/
theorem pock1 {n q h a : Nat} (hq : Pr q) (hn : n - 1 = h * q) (h1 : a ^ (n - 1) % n = 1 % n) (hc : Nat.Coprime (a ^ h % n + (n - 1)) n) (hn2 : 2 ≤ n) (hs : n < (q + 1) * (q + 1)) : Pr n := by
  refine prime_of_small n hn2 fun r hr hrn => ?_
  have hd := pock_step hq hn h1 hc hn2 hr hrn
  have h2 := hr.1
  have h3 := Nat.le_of_dvd (by omega) hd
  have h4 : q + 1 ≤ r := by omega
  have : (q + 1) * (q + 1) ≤ r * r := Nat.mul_le_mul h4 h4
  omega
/-- A number with two primes in n - 1. -/
theorem pock2 {n q q' h h' a : Nat} (hq : Pr q) (hq' : Pr q') (hne : Nat.Coprime q q') (hn : n - 1 = h * q) (hn' : n - 1 = h' * q') (h1 : a ^ (n - 1) % n = 1 % n) (hc : Nat.Coprime (a ^ h % n + (n - 1)) n) (hc' : Nat.Coprime (a ^ h' % n + (n - 1)) n) (hn2 : 2 ≤ n) (hs : n < (q * q' + 1) * (q * q' + 1)) : Pr n := by
  refine prime_of_small n hn2 fun r hr hrn => ?_
  have hd := pock_step hq hn h1 hc hn2 hr hrn
  have hd' := pock_step hq' hn' h1 hc' hn2 hr hrn
  have h2 := hr.1
  have h3 := Nat.le_of_dvd (by omega) (Nat.Coprime.mul_dvd_of_dvd_of_dvd hne hd hd')
  have h4 : q * q' + 1 ≤ r := by omega
  have : (q * q' + 1) * (q * q' + 1) ≤ r * r := Nat.mul_le_mul h4 h4
  omega
/-- No number from d on, as many as fuel, divides n. -/
def noDiv (n : Nat) : Nat → Nat → Bool
  | 0, _ => true
  | f + 1, d => n % d != 0 && noDiv n f (d + 1)
theorem noDiv_spec (n : Nat) : ∀ f d, noDiv n f d = true → ∀ e, d ≤ e → e < d + f → ¬ e ∣ n
  | 0, d, _, e, h1, h2 => by omega
  | f + 1, d, h, e, h1, h2 => by
    rw [noDiv, Bool.and_eq_true] at h
    rcases Nat.lt_or_ge d e with hlt | hge
    · exact noDiv_spec n f (d + 1) h.2 e hlt (by omega)
    · obtain rfl : e = d := by omega
      intro hd
      have := Nat.mod_eq_zero_of_dvd hd
      simp [this] at h
theorem prime_small (n f : Nat) (hn : 2 ≤ n) (h : noDiv n f 2 = true) (hs : n < (f + 2) * (f + 2)) : Pr n := by
  refine prime_of_small n hn fun r hr hrn => ?_
  rcases Nat.lt_or_ge r (f + 2) with hlt | hge
  · exact absurd hrn (noDiv_spec n f 2 h r hr.1 (by omega))
  · have : (f + 2) * (f + 2) ≤ r * r := Nat.mul_le_mul hge hge
    omega
/-- A power's rest, by squaring: fuel is the count of the exponent's bits. -/
def pw (m : Nat) : Nat → Nat → Nat → Nat
  | 0, _, _ => 1 % m
  | f + 1, b, e => if e % 2 = 1 then b * pw m f (b * b % m) (e / 2) % m else pw m f (b * b % m) (e / 2)
theorem pw_spec (m : Nat) : ∀ f b e, e < 2 ^ f → pw m f b e = b ^ e % m
  | 0, b, e, h => by
    obtain rfl : e = 0 := by simpa using h
    rfl
  | f + 1, b, e, h => by
    have hh : e / 2 < 2 ^ f := by rw [Nat.pow_succ] at h; omega
    have ih := pw_spec m f (b * b % m) (e / 2) hh
    have hp : (b * b % m) ^ (e / 2) % m = (b * b) ^ (e / 2) % m := by rw [← Nat.pow_mod]
    have hbb : (b * b) ^ (e / 2) = b ^ (e / 2 * 2) := by rw [← Nat.pow_two, ← Nat.pow_mul, Nat.mul_comm]
    rw [pw, ih, hp, hbb]
    by_cases h1 : e % 2 = 1
    · rw [if_pos h1, Nat.mul_mod, Nat.mod_mod, ← Nat.mul_mod, Nat.mul_comm b, ← Nat.pow_succ, show (e / 2 * 2).succ = e by omega]
    · rw [if_neg h1, show e / 2 * 2 = e by omega]
end Go.Proofs.YtofoihebhdpjlaaDoor
