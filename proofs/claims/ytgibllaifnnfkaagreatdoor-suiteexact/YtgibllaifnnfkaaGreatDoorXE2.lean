/- Of the texts NA: what the card of this claim reaches. -/
import Derived.KernelRfl
namespace Go.Proofs.YtgibllaifnnfkaaGreatDoor
def Pr (p : Nat) : Prop := 2 ≤ p ∧ ∀ d, d ∣ p → d = 1 ∨ d = p
theorem Pr.euclid {p a b : Nat} (h : Pr p) (hd : p ∣ a * b) : p ∣ a ∨ p ∣ b := by
  rcases h.2 (Nat.gcd p a) (Nat.gcd_dvd_left p a) with e | e
  · exact .inr (Nat.Coprime.dvd_of_dvd_mul_left e hd)
  · exact .inl (e ▸ Nat.gcd_dvd_right p a)
theorem prime_dvd (n : Nat) (hn : 2 ≤ n) : ∃ r, Pr r ∧ r ∣ n := by
  induction n using Nat.strongRecOn with
  | ind n ih =>
    by_cases h : ∀ d, d ∣ n → d = 1 ∨ d = n
    · exact ⟨n, ⟨hn, h⟩, Nat.dvd_refl n⟩
    · have ⟨d, hd⟩ : ∃ d, ¬ (d ∣ n → d = 1 ∨ d = n) := Classical.byContradiction fun hc => h fun d => Classical.byContradiction fun hc' => hc ⟨d, hc'⟩
      have h1 : d ∣ n := Classical.byContradiction fun hc => hd fun h => absurd h hc
      have h2 : d ≠ 1 := fun e => hd fun _ => .inl e
      have h3 : d ≠ n := fun e => hd fun _ => .inr e
      have hle := Nat.le_of_dvd (by omega) h1
      have h0 : d ≠ 0 := fun e => by
        subst e
        have := Nat.eq_zero_of_zero_dvd h1
        omega
      obtain ⟨r, hr, hrd⟩ := ih d (by omega) (by omega)
      exact ⟨r, hr, Nat.dvd_trans hrd h1⟩
theorem prime_of_small (n : Nat) (hn : 2 ≤ n) (h : ∀ r, Pr r → r ∣ n → n < r * r) : Pr n := by
  refine ⟨hn, fun d hd => ?_⟩
  obtain ⟨e, he⟩ := hd
  have hd0 : d ≠ 0 := fun z => by rw [z, Nat.zero_mul] at he; omega
  have he0 : e ≠ 0 := fun z => by rw [z, Nat.mul_zero] at he; omega
  by_cases h1 : d = 1
  · exact .inl h1
  · by_cases h2 : e = 1
    · exact .inr (by rw [he, h2, Nat.mul_one])
    · exfalso
      rcases Nat.le_total d e with hde | hde
      · obtain ⟨r, hr, hrd⟩ := prime_dvd d (by omega)
        have := h r hr (Nat.dvd_trans hrd ⟨e, he⟩)
        have hle := Nat.le_of_dvd (by omega) hrd
        have : r * r ≤ d * e := Nat.mul_le_mul hle (Nat.le_trans hle hde)
        omega
      · obtain ⟨r, hr, hrd⟩ := prime_dvd e (by omega)
        have := h r hr (Nat.dvd_trans hrd ⟨d, by rw [Nat.mul_comm]; exact he⟩)
        have hle := Nat.le_of_dvd (by omega) hrd
        have : r * r ≤ d * e := Nat.mul_le_mul (Nat.le_trans hle hde) hle
        omega
def ch : Nat → Nat → Nat
  | _, 0 => 1
  | 0, _ + 1 => 0
  | n + 1, k + 1 => ch n k + ch n (k + 1)
theorem ch_zero (n : Nat) : ch n 0 = 1 := by cases n <;> rfl
theorem ch_succ (n k : Nat) : ch (n + 1) (k + 1) = ch n k + ch n (k + 1) := rfl
theorem ch_big : ∀ n k, n < k → ch n k = 0
  | 0, k + 1, _ => rfl
  | n + 1, k + 1, h => by rw [ch_succ, ch_big n k (by omega), ch_big n (k + 1) (by omega)]
theorem ch_self : ∀ n, ch n n = 1
  | 0 => rfl
  | n + 1 => by rw [ch_succ, ch_self n, ch_big n (n + 1) (by omega)]
theorem ch_mul : ∀ n k, (k + 1) * ch (n + 1) (k + 1) = (n + 1) * ch n k
  | 0, 0 => rfl
  | 0, k + 1 => by rw [ch_big 1 (k + 2) (by omega), ch_big 0 (k + 1) (by omega), Nat.mul_zero, Nat.mul_zero]
  | n + 1, 0 => by
    have ih := ch_mul n 0
    rw [ch_succ, ch_zero, Nat.mul_add]
    rw [ch_zero] at ih
    omega
  | n + 1, k + 1 => by
    have h1 := ch_mul n k
    have h2 := ch_mul n (k + 1)
    have e1 : ch (n + 1) (k + 1) = ch n k + ch n (k + 1) := ch_succ n k
    have e2 : ch (n + 1 + 1) (k + 1 + 1) = ch (n + 1) (k + 1) + ch (n + 1) (k + 1 + 1) := ch_succ (n + 1) (k + 1)
    rw [e2]
    generalize ch (n + 1) (k + 1) = A at *
    generalize ch (n + 1) (k + 1 + 1) = B at *
    generalize ch n k = C at *
    generalize ch n (k + 1) = D at *
    subst e1
    have f1 : (k + 1 + 1) * ((C + D) + B) = ((k + 1) * (C + D) + (C + D)) + (k + 1 + 1) * B := by
      rw [Nat.mul_add, Nat.add_mul (k + 1) 1 (C + D), Nat.one_mul]
    have f2 : (n + 1 + 1) * (C + D) = ((n + 1) * C + (n + 1) * D) + (C + D) := by
      rw [Nat.add_mul (n + 1) 1 (C + D), Nat.one_mul, Nat.mul_add]
    rw [f1, f2, h1, h2]
    omega
theorem Pr.ch {p k : Nat} (h : Pr p) (h0 : 0 < k) (hk : k < p) : p ∣ ch p k := by
  obtain ⟨j, rfl⟩ : ∃ j, k = j + 1 := ⟨k - 1, by omega⟩
  obtain ⟨n, rfl⟩ : ∃ n, p = n + 1 := ⟨p - 1, by have := h.1; omega⟩
  have hd : (n + 1) ∣ (j + 1) * Go.Proofs.YtgibllaifnnfkaaGreatDoor.ch (n + 1) (j + 1) := ⟨_, ch_mul n j⟩
  rcases h.euclid hd with h1 | h1
  · have := Nat.le_of_dvd (by omega) h1
    omega
  · exact h1
def bin (a n : Nat) : Nat → Nat
  | 0 => 0
  | k + 1 => bin a n k + ch n k * a ^ k
theorem bin_step (a n : Nat) : ∀ k, bin a (n + 1) (k + 1) = a * bin a n k + bin a n (k + 1)
  | 0 => by
    simp only [bin, ch_zero, Nat.pow_zero, Nat.mul_zero]
  | k + 1 => by
    rw [bin, bin_step a n k, ch_succ, bin, bin, bin]
    rw [Nat.add_mul, Nat.mul_add, Nat.pow_succ]
    generalize bin a n k = A
    have e : a * (ch n k * a ^ k) = ch n k * (a ^ k * a) := by
      rw [Nat.mul_comm a, Nat.mul_assoc]
    rw [e]
    omega
theorem binomial (a : Nat) : ∀ n, (a + 1) ^ n = bin a n (n + 1)
  | 0 => by simp [bin, ch]
  | n + 1 => by
    rw [Nat.pow_succ, binomial a n, bin_step a n (n + 1)]
    have e : bin a n (n + 1 + 1) = bin a n (n + 1) := by rw [bin, ch_big n (n + 1) (by omega), Nat.zero_mul, Nat.add_zero]
    rw [e, Nat.mul_add, Nat.mul_one, Nat.mul_comm a]
theorem bin_mod {p : Nat} (h : Pr p) (a : Nat) : ∀ k, k < p → bin a p (k + 1) % p = 1 % p
  | 0, _ => by simp [bin, ch_zero]
  | k + 1, hk => by
    obtain ⟨c, hc⟩ := h.ch (k := k + 1) (by omega) hk
    rw [bin, hc, Nat.mul_assoc, Nat.add_mul_mod_self_left]
    exact bin_mod h a k (by omega)
theorem Pr.fermat {p : Nat} (h : Pr p) : ∀ a, a ^ p % p = a % p
  | 0 => by
    have := h.1
    rw [Nat.zero_pow (by omega)]
  | a + 1 => by
    have h2 := h.1
    rw [binomial]
    have e : bin a p (p + 1) = bin a p p + a ^ p := by rw [bin, ch_self, Nat.one_mul]
    have e2 := bin_mod h a (p - 1) (by omega)
    rw [Nat.sub_add_cancel (by omega)] at e2
    rw [e, Nat.add_mod, e2, h.fermat a, ← Nat.add_mod, Nat.add_comm]
theorem mod_cancel {p a b c : Nat} (h : Pr p) (ha : ¬ p ∣ a) (he : a * b % p = a * c % p) : b % p = c % p := by
  rcases Nat.le_total b c with hbc | hbc
  · have hd : p ∣ a * c - a * b := (Nat.dvd_iff_mod_eq_zero ..).2 (Nat.sub_mod_eq_zero_of_mod_eq he.symm)
    rw [← Nat.mul_sub] at hd
    obtain ⟨d, hd⟩ := (h.euclid hd).resolve_left ha
    have : c = b + p * d := by omega
    rw [this, Nat.add_mul_mod_self_left]
  · have hd : p ∣ a * b - a * c := (Nat.dvd_iff_mod_eq_zero ..).2 (Nat.sub_mod_eq_zero_of_mod_eq he)
    rw [← Nat.mul_sub] at hd
    obtain ⟨d, hd⟩ := (h.euclid hd).resolve_left ha
    have : b = c + p * d := by omega
    rw [this, Nat.add_mul_mod_self_left]
theorem Pr.fermat1 {p a : Nat} (h : Pr p) (ha : ¬ p ∣ a) : a ^ (p - 1) % p = 1 % p := by
  refine mod_cancel h ha ?_
  rw [Nat.mul_one, Nat.mul_comm, ← Nat.pow_succ, show (p - 1).succ = p by have := h.1; omega]
  exact h.fermat a
theorem pow_one_mod {r a m : Nat} (h : a ^ m % r = 1 % r) (k : Nat) : a ^ (m * k) % r = 1 % r := by
  rw [Nat.pow_mul, Nat.pow_mod, h, ← Nat.pow_mod, Nat.one_pow]
theorem pow_gcd {r a : Nat} (m n : Nat) : a ^ m % r = 1 % r → a ^ n % r = 1 % r → a ^ Nat.gcd m n % r = 1 % r := by
  induction m, n using Nat.gcd.induction with
  | H0 n => intro _ h; rw [Nat.gcd_zero_left]; exact h
  | H1 m n hm ih =>
    intro h1 h2
    rw [Nat.gcd_rec]
    refine ih ?_ h1
    have e : a ^ n = a ^ (m * (n / m)) * a ^ (n % m) := by rw [← Nat.pow_add, Nat.div_add_mod]
    rw [e, Nat.mul_mod, pow_one_mod h1, ← Nat.mul_mod, Nat.one_mul] at h2
    exact h2
theorem pock_step {n q r h a : Nat} (hq : Pr q) (hn : n - 1 = h * q) (h1 : a ^ (n - 1) % n = 1 % n) (hc : Nat.Coprime (a ^ h % n + (n - 1)) n) (hn2 : 2 ≤ n) (hr : Pr r) (hrn : r ∣ n) : q ∣ r - 1 := by
  have hr2 := hr.1
  obtain ⟨c, hc'⟩ := hrn
  have modr : ∀ x y, x % n = y % n → x % r = y % r := fun x y e => by
    have := congrArg (· % r) e
    simp only [hc', Nat.mod_mul_right_mod] at this
    exact this
  have hb : (a ^ h) ^ q % r = 1 % r := by
    rw [← Nat.pow_mul, ← hn]; exact modr _ _ h1
  have hrb : ¬ r ∣ a ^ h := fun hd => by
    have : r ∣ (a ^ h) ^ q := Nat.dvd_trans hd ⟨(a ^ h) ^ (q - 1), by rw [Nat.mul_comm, ← Nat.pow_succ, show (q - 1).succ = q by have := hq.1; omega]⟩
    rw [Nat.mod_eq_zero_of_dvd this, Nat.mod_eq_of_lt (by omega)] at hb
    omega
  have hg := pow_gcd q (r - 1) hb (hr.fermat1 hrb)
  rcases hq.2 (Nat.gcd q (r - 1)) (Nat.gcd_dvd_left _ _) with e | e
  · exfalso
    rw [e, Nat.pow_one] at hg
    have hd : r ∣ a ^ h % n + (n - 1) := by
      apply Nat.dvd_of_mod_eq_zero
      have e1 : a ^ h % n % r = 1 % r := by rw [hc', Nat.mod_mul_right_mod]; exact hg
      rw [Nat.add_mod, e1, ← Nat.add_mod, show 1 + (n - 1) = n by omega, hc', Nat.mul_mod_right]
    have := Nat.dvd_gcd hd ⟨c, hc'⟩
    rw [hc] at this
    have := Nat.le_of_dvd (by decide) this
    omega
  · exact e ▸ Nat.gcd_dvd_right q (r - 1)
theorem pock1 {n q h a : Nat} (hq : Pr q) (hn : n - 1 = h * q) (h1 : a ^ (n - 1) % n = 1 % n) (hc : Nat.Coprime (a ^ h % n + (n - 1)) n) (hn2 : 2 ≤ n) (hs : n < (q + 1) * (q + 1)) : Pr n := by
  refine prime_of_small n hn2 fun r hr hrn => ?_
  have hd := pock_step hq hn h1 hc hn2 hr hrn
  have h2 := hr.1
  have h3 := Nat.le_of_dvd (by omega) hd
  have h4 : q + 1 ≤ r := by omega
  have : (q + 1) * (q + 1) ≤ r * r := Nat.mul_le_mul h4 h4
  omega
theorem pock2 {n q q' h h' a : Nat} (hq : Pr q) (hq' : Pr q') (hne : Nat.Coprime q q') (hn : n - 1 = h * q) (hn' : n - 1 = h' * q') (h1 : a ^ (n - 1) % n = 1 % n) (hc : Nat.Coprime (a ^ h % n + (n - 1)) n) (hc' : Nat.Coprime (a ^ h' % n + (n - 1)) n) (hn2 : 2 ≤ n) (hs : n < (q * q' + 1) * (q * q' + 1)) : Pr n := by
  refine prime_of_small n hn2 fun r hr hrn => ?_
  have hd := pock_step hq hn h1 hc hn2 hr hrn
  have hd' := pock_step hq' hn' h1 hc' hn2 hr hrn
  have h2 := hr.1
  have h3 := Nat.le_of_dvd (by omega) (Nat.Coprime.mul_dvd_of_dvd_of_dvd hne hd hd')
  have h4 : q * q' + 1 ≤ r := by omega
  have : (q * q' + 1) * (q * q' + 1) ≤ r * r := Nat.mul_le_mul h4 h4
  omega
def noDiv (n : Nat) : Nat → Nat → Bool
  | 0, _ => true
  | f + 1, d => n % d != 0 && noDiv n f (d + 1)
theorem noDiv_spec (n : Nat) : ∀ f d, noDiv n f d = true → ∀ e, d ≤ e → e < d + f → ¬ e ∣ n
  | 0, d, _, e, h1, h2 => by omega
  | f + 1, d, h, e, h1, h2 => by
    rw [noDiv, Bool.and_eq_true] at h
    rcases Nat.lt_or_ge d e with hlt | hge
    · exact noDiv_spec n f (d + 1) h.2 e hlt (by omega)
    · obtain rfl : e = d := by omega
      intro hd
      have := Nat.mod_eq_zero_of_dvd hd
      simp [this] at h
theorem prime_small (n f : Nat) (hn : 2 ≤ n) (h : noDiv n f 2 = true) (hs : n < (f + 2) * (f + 2)) : Pr n := by
  refine prime_of_small n hn fun r hr hrn => ?_
  rcases Nat.lt_or_ge r (f + 2) with hlt | hge
  · exact absurd hrn (noDiv_spec n f 2 h r hr.1 (by omega))
  · have : (f + 2) * (f + 2) ≤ r * r := Nat.mul_le_mul hge hge
    omega
def pw (m : Nat) : Nat → Nat → Nat → Nat
  | 0, _, _ => 1 % m
  | f + 1, b, e => if e % 2 = 1 then b * pw m f (b * b % m) (e / 2) % m else pw m f (b * b % m) (e / 2)
theorem pw_spec (m : Nat) : ∀ f b e, e < 2 ^ f → pw m f b e = b ^ e % m
  | 0, b, e, h => by
    obtain rfl : e = 0 := by simpa using h
    rfl
  | f + 1, b, e, h => by
    have hh : e / 2 < 2 ^ f := by rw [Nat.pow_succ] at h; omega
    have ih := pw_spec m f (b * b % m) (e / 2) hh
    have hp : (b * b % m) ^ (e / 2) % m = (b * b) ^ (e / 2) % m := by rw [← Nat.pow_mod]
    have hbb : (b * b) ^ (e / 2) = b ^ (e / 2 * 2) := by rw [← Nat.pow_two, ← Nat.pow_mul, Nat.mul_comm]
    rw [pw, ih, hp, hbb]
    by_cases h1 : e % 2 = 1
    · rw [if_pos h1, Nat.mul_mod, Nat.mod_mod, ← Nat.mul_mod, Nat.mul_comm b, ← Nat.pow_succ, show (e / 2 * 2).succ = e by omega]
    · rw [if_neg h1, show e / 2 * 2 = e by omega]
end Go.Proofs.YtgibllaifnnfkaaGreatDoor
namespace Go.Proofs.YtgibllaifnnfkaaGreatDoor
theorem pock1_check {n q h a : Nat} (f : Nat) (hq : Pr q) (hc : (n - 1 == h * q && decide (n - 1 < 2 ^ f) && decide (h < 2 ^ f) && pw n f a (n - 1) == 1 && Nat.gcd (pw n f a h + (n - 1)) n == 1 && decide (2 ≤ n) && decide (n < (q + 1) * (q + 1))) = true) : Pr n := by
  simp only [Bool.and_eq_true, beq_iff_eq, decide_eq_true_eq] at hc
  obtain ⟨⟨⟨⟨⟨⟨h1, h2⟩, h3⟩, h4⟩, h5⟩, h6⟩, h7⟩ := hc
  refine pock1 (a := a) hq h1 ?_ ?_ h6 h7
  · rw [← pw_spec n f a (n - 1) h2, h4, Nat.mod_eq_of_lt (by omega)]
  · rw [← pw_spec n f a h h3]; exact h5
theorem pock2_check {n q q' h h' a : Nat} (f : Nat) (hq : Pr q) (hq' : Pr q') (hc : (Nat.gcd q q' == 1 && n - 1 == h * q && n - 1 == h' * q' && decide (n - 1 < 2 ^ f) && decide (h < 2 ^ f) && decide (h' < 2 ^ f) && pw n f a (n - 1) == 1 && Nat.gcd (pw n f a h + (n - 1)) n == 1 && Nat.gcd (pw n f a h' + (n - 1)) n == 1 && decide (2 ≤ n) && decide (n < (q * q' + 1) * (q * q' + 1))) = true) : Pr n := by
  simp only [Bool.and_eq_true, beq_iff_eq, decide_eq_true_eq] at hc
  obtain ⟨⟨⟨⟨⟨⟨⟨⟨⟨⟨h0, h1⟩, h1'⟩, h2⟩, h3⟩, h3'⟩, h4⟩, h5⟩, h5'⟩, h6⟩, h7⟩ := hc
  refine pock2 (a := a) hq hq' h0 h1 h1' ?_ ?_ ?_ h6 h7
  · rw [← pw_spec n f a (n - 1) h2, h4, Nat.mod_eq_of_lt (by omega)]
  · rw [← pw_spec n f a h h3]; exact h5
  · rw [← pw_spec n f a h' h3']; exact h5'
theorem pr127 : Pr 127 := prime_small 127 10 (by decide) (by decide +kernel) (by decide)
theorem pr353 : Pr 353 := prime_small 353 17 (by decide) (by decide +kernel) (by decide)
theorem pr75707 : Pr 75707 := prime_small 75707 274 (by decide) (by decide +kernel) (by decide)
theorem pr8574133 : Pr 8574133 := prime_small 8574133 2927 (by decide) (by decide +kernel) (by decide)
theorem pr51 : Pr 1919519569386763 := pock2_check (q := 8574133) (q' := 127) (h := 223873314) (h' := 15114327318006) (a := 2) 52 pr8574133 pr127 (by decide +kernel)
theorem pr116 : Pr 75445702479781427272750846543864801 := pock2_check (q := 1919519569386763) (q' := 75707) (h := 39304471641247389600) (h' := 996548568557483816196003626400) (a := 2) 117 pr51 pr75707 (by decide +kernel)
theorem pr236 : Pr 74058212732561358302231226437062788676166966415465897661863160754340907 := pock2_check (q := 75445702479781427272750846543864801) (q' := 353) (h := 981609426360740691344999861639072106) (h' := 209796636636151156663544550813209033076960244803019540118592523383402) (a := 2) 237 pr116 pr353 (by decide +kernel)
def pp : Nat := 57896044618658097711785492504343953926634992332820282019728792003956564819949
theorem pp_prime : Pr pp := pock1_check (q := 74058212732561358302231226437062788676166966415465897661863160754340907) (h := 781764) (a := 2) 256 pr236 (by decide +kernel)
end Go.Proofs.YtgibllaifnnfkaaGreatDoor
namespace Go.Proofs.YtgibllaifnnfkaaGreatDoor
theorem pp_pos : 0 < pp := by decide
theorem pp_two : 2 < pp := by decide
theorem one_mod : 1 % pp = 1 := by decide
theorem pp_dvd_iff {a : Nat} : pp ∣ a ↔ a % pp = 0 := Nat.dvd_iff_mod_eq_zero ..
theorem zero_pow_mod (a k m : Nat) (hk : 0 < k) (h : a % m = 0) : a ^ k % m = 0 := by rw [Nat.pow_mod, h, Nat.zero_pow hk, Nat.zero_mod]
def finv (a : Nat) : Nat := a ^ (pp - 2) % pp
theorem finv_lt (a : Nat) : finv a < pp := Nat.mod_lt _ pp_pos
theorem finv_mul {a : Nat} (h : a % pp ≠ 0) : a * finv a % pp = 1 := by
  unfold finv
  have := pp_prime.fermat1 (a := a) (fun hd => h (pp_dvd_iff.1 hd))
  rw [one_mod] at this
  rw [Nat.mul_mod, Nat.mod_mod, ← Nat.mul_mod, Nat.mul_comm, ← Nat.pow_succ, show (pp - 2).succ = pp - 1 from by have := pp_two; omega]
  exact this
def fi : Nat := 19681161376707505956807079304988542015446066515923890162744021073123829784752
theorem fi_sq : fi * fi % pp = pp - 1 := by decide +kernel
theorem fi_lt : fi < pp := by decide +kernel
theorem fi_pow : fi = 2 ^ ((pp - 1) / 4) % pp := by
  rw [← pw_spec pp 256 2 ((pp - 1) / 4) (by decide)]; decide +kernel
theorem sub_mul_self (x y : Nat) : (x - y) * (x + y) = x * x - y * y := by
  rw [Nat.mul_comm, ← Nat.mul_self_sub_mul_self_eq]
theorem sq_eq {x y : Nat} (h : x * x % pp = y * y % pp) : x % pp = y % pp ∨ (x + y) % pp = 0 := by
  rcases Nat.le_total y x with hle | hle
  · have hd : pp ∣ (x - y) * (x + y) := by
      rw [sub_mul_self x y]
      exact pp_dvd_iff.2 (Nat.sub_mod_eq_zero_of_mod_eq h)
    rcases pp_prime.euclid hd with ⟨d, hd⟩ | hd
    · left
      rw [show x = y + pp * d by omega, Nat.add_mul_mod_self_left]
    · right; exact pp_dvd_iff.1 hd
  · have hd : pp ∣ (y - x) * (y + x) := by
      rw [sub_mul_self y x]
      exact pp_dvd_iff.2 (Nat.sub_mod_eq_zero_of_mod_eq h.symm)
    rcases pp_prime.euclid hd with ⟨d, hd⟩ | hd
    · left
      rw [show y = x + pp * d by omega, Nat.add_mul_mod_self_left]
    · right; rw [Nat.add_comm]; exact pp_dvd_iff.1 hd
def IsRoot (a r : Nat) : Prop := r < pp ∧ r % 2 = 0 ∧ r * r % pp = a % pp
theorem pp_odd : pp % 2 = 1 := by decide
theorem neg_sq {x : Nat} (h : x ≤ pp) : (pp - x) * (pp - x) % pp = x * x % pp := by
  have hd : pp ∣ (pp - x + x) * (pp - x) := ⟨pp - x, by rw [Nat.sub_add_cancel h]⟩
  have hd2 : pp ∣ (pp - x + x) * x := ⟨x, by rw [Nat.sub_add_cancel h]⟩
  obtain ⟨c, hc⟩ := hd
  obtain ⟨d, hd⟩ := hd2
  rw [Nat.add_mul] at hc hd
  generalize hA : (pp - x) * (pp - x) = A at *
  generalize hB : x * (pp - x) = B at *
  rw [Nat.mul_comm (pp - x) x, hB] at hd
  generalize hC : x * x = C at *
  have e : A + pp * d = C + pp * c := by omega
  have := congrArg (· % pp) e
  simpa [Nat.add_mul_mod_self_left] using this
def evenOf (x : Nat) : Nat := if x % 2 = 1 then pp - x else x
theorem evenOf_root {a x : Nat} (hx : x < pp) (h : x * x % pp = a % pp) : IsRoot a (evenOf x) := by
  unfold evenOf
  have hp := pp_odd
  split
  · exact ⟨by omega, by omega, by rw [neg_sq (by omega)]; exact h⟩
  · exact ⟨hx, by omega, h⟩
theorem root_try (a : Nat) (h : ∃ y, y * y % pp = a % pp) : let r := a ^ ((pp + 3) / 8) % pp
    r * r % pp = a % pp ∨ (r * fi % pp) * (r * fi % pp) % pp = a % pp := by
  intro r
  obtain ⟨y, hy⟩ := h
  by_cases hz : a % pp = 0
  · left
    have : r = 0 := zero_pow_mod a _ _ (by decide) hz
    rw [this, hz, Nat.zero_mul, Nat.zero_mod]
  · have hyz : y % pp ≠ 0 := fun e => hz (by rw [← hy, Nat.mul_mod, e, Nat.mul_zero, Nat.zero_mod])
    have hf := pp_prime.fermat1 (a := y) (fun hd => hyz (pp_dvd_iff.1 hd))
    -- a^((p - 1) / 2) is 1
    have ha : a ^ ((pp - 1) / 2) % pp = 1 % pp := by
      rw [Nat.pow_mod, ← hy, ← Nat.pow_mod, ← Nat.pow_two, ← Nat.pow_mul, show 2 * ((pp - 1) / 2) = pp - 1 by decide]
      exact hf
    have hr : r % pp = a ^ ((pp + 3) / 8) % pp := Nat.mod_mod _ _
    have h2 : r * r % pp = a ^ ((pp + 3) / 4) % pp := by
      rw [Nat.mul_mod, hr, ← Nat.mul_mod, ← Nat.pow_add, show (pp + 3) / 8 + (pp + 3) / 8 = (pp + 3) / 4 by decide]
    have h4 : (r * r) * (r * r) % pp = a * a % pp := by
      rw [Nat.mul_mod, h2, ← Nat.mul_mod, ← Nat.pow_add, show (pp + 3) / 4 + (pp + 3) / 4 = (pp - 1) / 2 + 2 by decide, Nat.pow_add, Nat.mul_mod, ha, ← Nat.mul_mod, Nat.one_mul, Nat.pow_two]
    rcases sq_eq h4 with h | h
    · exact .inl h
    · right
      have e1 : (r * fi % pp) * (r * fi % pp) % pp = (r * r) * (fi * fi) % pp := by
        rw [← Nat.mul_mod, Nat.mul_assoc, Nat.mul_left_comm fi r fi, ← Nat.mul_assoc]
      rw [e1, Nat.mul_mod, fi_sq]
      have e2 : (r * r % pp * (pp - 1) + r * r % pp) % pp = 0 := by
        rw [← Nat.mul_succ, show (pp - 1).succ = pp from by decide, Nat.mul_mod_left]
      have h' : (r * r % pp + a) % pp = 0 := by rw [Nat.mod_add_mod]; exact h
      -- both have r r added to nought
      have e3 : (r * r % pp * (pp - 1) + (r * r % pp + a)) % pp = a % pp := by
        rw [← Nat.add_assoc, Nat.add_mod, e2, Nat.zero_add, Nat.mod_mod]
      rw [Nat.add_mod, h', Nat.add_zero, Nat.mod_mod] at e3
      exact e3
def froot (a : Nat) : Option Nat :=
  let r := a ^ ((pp + 3) / 8) % pp
  if r * r % pp = a % pp then some (evenOf r)
  else if (r * fi % pp) * (r * fi % pp) % pp = a % pp then some (evenOf (r * fi % pp)) else none
theorem froot_some {a x : Nat} (h : froot a = some x) : IsRoot a x := by
  unfold froot at h
  simp only at h
  split at h
  · rename_i h1
    obtain rfl := Option.some.inj h
    exact evenOf_root (Nat.mod_lt _ pp_pos) h1
  · split at h
    · rename_i h1
      obtain rfl := Option.some.inj h
      exact evenOf_root (Nat.mod_lt _ pp_pos) h1
    · cases h
theorem froot_none {a : Nat} (h : froot a = none) : ∀ y, y * y % pp ≠ a % pp := fun y hy => by
  have := root_try a ⟨y, hy⟩
  unfold froot at h
  simp only at h this
  split at h
  · cases h
  · split at h
    · cases h
    · rename_i h1 h2
      exact this.elim h1 h2
end Go.Proofs.YtgibllaifnnfkaaGreatDoor
