/- Texts of one length that differ in up to 32 bits side by side alone have unlike sums. -/
import Derived.Test.YtcpapcopnmapmaaDoorM1
namespace Go.Proofs.YtcpapcopnmapmaaDoor

/-- A text's bit at a place, of each byte the lowest first. -/
def bitAt (l : List Int) (p : Nat) : Nat := (l.getD (p / 8) 0).toNat / 2 ^ (p % 8) % 2
theorem bitAt_lt (l : List Int) (p : Nat) : bitAt l p < 2 := Nat.mod_lt _ (by decide)
/-- The register behind the first p bits. -/
def stb (r : Nat) (l : List Int) : Nat → Nat
  | 0 => r
  | p + 1 => T (stb r l p ^^^ bitAt l p)
theorem stb_zero (r : Nat) (l : List Int) : stb r l 0 = r := by unfold stb; exact Eq.refl _
theorem stb_succ (r : Nat) (l : List Int) (p : Nat) : stb r l (p + 1) = T (stb r l p ^^^ bitAt l p) := by conv => lhs; unfold stb
theorem stb_byte (r : Nat) (l : List Int) (k : Nat) : ∀ j, j ≤ 8 → stb r l (8 * k + j) = Ti j (stb r l (8 * k) ^^^ (l.getD k 0).toNat % 2 ^ j)
  | 0, _ => by rw [Nat.add_zero, Nat.pow_zero, Nat.mod_one, Nat.xor_zero]; rfl
  | j + 1, h => by
    rw [← Nat.add_assoc, stb_succ, stb_byte r l k j (by omega), ← bit_step]
    have e : bitAt l (8 * k + j) = (l.getD k 0).toNat / 2 ^ j % 2 := by
      unfold bitAt
      rw [show (8 * k + j) / 8 = k by omega, show (8 * k + j) % 8 = j by omega]
    rw [e]
theorem byte_lt {l : List Int} (hl : Bys l) (k : Nat) : (l.getD k 0).toNat < 256 := by
  by_cases hk : k < l.length
  · have := hl (l.getD k 0) (by rw [List.getD, List.getElem?_eq_getElem hk]; exact List.getElem_mem _)
    omega
  · rw [List.getD, List.getElem?_eq_none (by omega)]; decide
theorem stb_eight (r : Nat) (l : List Int) (hl : Bys l) : ∀ k, k ≤ l.length → stb r l (8 * k) = reg r (l.take k)
  | 0, _ => by rw [List.take_zero, reg_nil, Nat.mul_zero, stb_zero]
  | k + 1, h => by
    have hk : k < l.length := by omega
    rw [show 8 * (k + 1) = 8 * k + 8 by omega, stb_byte r l k 8 (Nat.le_refl _), stb_eight r l hl k (by omega)]
    rw [List.take_succ_eq_append_getElem hk, reg_append, reg_cons, reg_nil, By]
    have e : l.getD k 0 = l[k] := by rw [List.getD, List.getElem?_eq_getElem hk, Option.getD_some]
    have := byte_lt hl k
    rw [Nat.mod_eq_of_lt (show (l.getD k 0).toNat < 2 ^ 8 from this), e]

section
variable (e : Nat → Nat)
/-- How two registers differ whose bits differ by e. -/
def dif : Nat → Nat
  | 0 => 0
  | p + 1 => T (dif p ^^^ e p)
theorem dif_zero : dif e 0 = 0 := by unfold dif; exact Eq.refl _
theorem dif_succ (p : Nat) : dif e (p + 1) = T (dif e p ^^^ e p) := by conv => lhs; unfold dif
theorem dif_lt (he : ∀ p, e p < 2) : ∀ p, dif e p < 4294967296
  | 0 => by rw [dif_zero]; decide
  | p + 1 => by rw [dif_succ]; exact T_lt (Nat.xor_lt_two_pow (n := 32) (dif_lt he p) (Nat.lt_of_lt_of_le (he p) (by decide)))
theorem dif_ahead (at' : Nat) (h : ∀ p, p < at' → e p = 0) : ∀ p, p ≤ at' → dif e p = 0
  | 0, _ => dif_zero e
  | p + 1, hp => by rw [dif_succ, dif_ahead at' h p (by omega), h p (by omega), Nat.xor_self, T_zero]
/-- The bits of the window, as a word. -/
def word (at' : Nat) : Nat → Nat
  | 0 => 0
  | j + 1 => word at' j ^^^ e (at' + j) * 2 ^ j
theorem dif_window (at' : Nat) (h : ∀ p, p < at' → e p = 0) : ∀ j, dif e (at' + j) = Ti j (word e at' j)
  | 0 => by rw [Nat.add_zero, dif_ahead e at' h at' (Nat.le_refl _)]; rfl
  | j + 1 => by
    rw [← Nat.add_assoc, dif_succ, dif_window at' h j, word, Ti, Ti_xor, Ti_shift]
theorem word_lt (at' : Nat) (he : ∀ p, e p < 2) : ∀ j, word e at' j < 2 ^ j
  | 0 => by rw [word]; decide
  | j + 1 => by
    rw [word]
    have h1 := word_lt at' he j
    have h2 := he (at' + j)
    have h3 : e (at' + j) * 2 ^ j ≤ 1 * 2 ^ j := Nat.mul_le_mul_right _ (by omega)
    refine Nat.xor_lt_two_pow ?_ ?_
    · rw [Nat.pow_succ]; omega
    · rw [Nat.pow_succ]
      have : 0 < 2 ^ j := Nat.pow_pos (by decide)
      omega
theorem word_zero (at' : Nat) (he : ∀ p, e p < 2) : ∀ j, word e at' j = 0 → ∀ i, i < j → e (at' + i) = 0
  | 0, _, i, hi => by omega
  | j + 1, h, i, hi => by
    rw [word] at h
    have h1 := word_lt e at' he j
    have h2 : word e at' j = e (at' + j) * 2 ^ j := by
      have := congrArg (· ^^^ (e (at' + j) * 2 ^ j)) h
      simpa [Nat.xor_assoc] using this
    have h3 : e (at' + j) = 0 := by
      rcases Nat.eq_zero_or_pos (e (at' + j)) with h | h
      · exact h
      · exfalso
        have : 1 * 2 ^ j ≤ e (at' + j) * 2 ^ j := Nat.mul_le_mul_right _ h
        omega
    rcases Nat.lt_or_ge i j with hij | hij
    · exact word_zero at' he j (by rw [h2, h3, Nat.zero_mul]) i hij
    · rw [show i = j by omega]; exact h3
theorem dif_behind (q : Nat) (h : ∀ p, q ≤ p → e p = 0) : ∀ k, dif e (q + k) = Ti k (dif e q)
  | 0 => by rw [Nat.add_zero]; rfl
  | k + 1 => by rw [← Nat.add_assoc, dif_succ, dif_behind q h k, h (q + k) (by omega), Nat.xor_zero, Ti]
/-- Bits that differ in a window of 32 alone, and lead to no difference, do not differ. -/
theorem no_dif (at' n : Nat) (he : ∀ p, e p < 2) (h1 : ∀ p, p < at' → e p = 0) (h2 : ∀ p, at' + 32 ≤ p → e p = 0) (h3 : ∀ p, n ≤ p → e p = 0) (h0 : dif e n = 0) : ∀ p, e p = 0 := by
  have a : dif e (n + (at' + 32)) = 0 := by rw [dif_behind e n h3, h0, Ti_zero]
  have b : dif e (at' + 32) = 0 := by
    rw [Nat.add_comm n, dif_behind e (at' + 32) h2] at a
    exact Ti_inj n (dif_lt e he _) a
  rw [dif_window e at' h1] at b
  have c : word e at' 32 = 0 := Ti_inj 32 (word_lt e at' he 32) b
  intro p
  rcases Nat.lt_or_ge p at' with h | h
  · exact h1 p h
  · rcases Nat.lt_or_ge p (at' + 32) with h' | h'
    · have := word_zero e at' he 32 c (p - at') (by omega)
      rwa [Nat.add_sub_cancel' h] at this
    · exact h2 p h'
end

theorem stb_dif (r : Nat) (l m : List Int) : ∀ p, stb r l p ^^^ stb r m p = dif (fun p => bitAt l p ^^^ bitAt m p) p
  | 0 => by rw [stb_zero, stb_zero, Nat.xor_self, dif_zero]
  | p + 1 => by
    rw [stb_succ, stb_succ, dif_succ, ← T_xor, ← stb_dif r l m p, xor_swap4]
theorem xor_zero_iff {a b : Nat} (h : a ^^^ b = 0) : a = b := by
  have := congrArg (· ^^^ b) h
  simpa [Nat.xor_assoc] using this
theorem byte_ext {c d : Nat} (hc : c < 256) (hd : d < 256) (h : ∀ j, j < 8 → c / 2 ^ j % 2 = d / 2 ^ j % 2) : c = d := by
  apply Nat.eq_of_testBit_eq
  intro i
  by_cases hi : i < 8
  · rw [Nat.testBit_eq_decide_div_mod_eq, Nat.testBit_eq_decide_div_mod_eq, h i hi]
  · have hp : 2 ^ 8 ≤ 2 ^ i := Nat.pow_le_pow_right (by decide) (by omega)
    rw [Nat.testBit_lt_two_pow (show c < 2 ^ i by omega), Nat.testBit_lt_two_pow (show d < 2 ^ i by omega)]
theorem bits_ext (l m : List Int) (hl : Bys l) (hm : Bys m) (hlen : l.length = m.length) (h : ∀ p, bitAt l p = bitAt m p) : l = m := by
  apply List.ext_getElem hlen
  intro k hk hk'
  have e1 : l.getD k 0 = l[k] := by rw [List.getD, List.getElem?_eq_getElem hk, Option.getD_some]
  have e2 : m.getD k 0 = m[k] := by rw [List.getD, List.getElem?_eq_getElem hk', Option.getD_some]
  have b1 := hl _ (List.getElem_mem hk)
  have b2 := hm _ (List.getElem_mem hk')
  have := byte_ext (byte_lt hl k) (byte_lt hm k) (fun j hj => by
    have := h (8 * k + j)
    unfold bitAt at this
    rw [show (8 * k + j) / 8 = k by omega, show (8 * k + j) % 8 = j by omega] at this
    exact this)
  rw [e1, e2] at this
  omega
/-- Texts of one length that differ in up to 32 bits side by side alone have one sum only where they are the same. -/
theorem crc_unlike (l m : List Int) (hl : Bys l) (hm : Bys m) (hlen : l.length = m.length) (at' : Nat) (h : ∀ p, p < at' ∨ at' + 32 ≤ p → bitAt l p = bitAt m p) : crc l = crc m ↔ l = m := by
  refine ⟨fun hc => ?_, fun e => by rw [e]⟩
  have hr : reg 4294967295 l = reg 4294967295 m := by rw [reg_of_crc, reg_of_crc, hc]
  have a1 := stb_eight 4294967295 l hl l.length (Nat.le_refl _)
  have a2 := stb_eight 4294967295 m hm m.length (Nat.le_refl _)
  rw [List.take_length] at a1 a2
  have a3 := stb_dif 4294967295 l m (8 * l.length)
  rw [a1, hlen, a2, hr, Nat.xor_self] at a3
  have b0 : ∀ p, 8 * m.length ≤ p → bitAt l p ^^^ bitAt m p = 0 := fun p hp => by
    unfold bitAt
    rw [List.getD, List.getD, List.getElem?_eq_none (by omega), List.getElem?_eq_none (by omega), Nat.xor_self]
  have all := no_dif (fun p => bitAt l p ^^^ bitAt m p) at' (8 * m.length) (fun p => Nat.xor_lt_two_pow (n := 1) (bitAt_lt l p) (bitAt_lt m p))
    (fun p hp => by show bitAt l p ^^^ bitAt m p = 0; rw [h p (.inl hp), Nat.xor_self]) (fun p hp => by show bitAt l p ^^^ bitAt m p = 0; rw [h p (.inr hp), Nat.xor_self]) b0 a3.symm
  exact bits_ext l m hl hm hlen fun p => xor_zero_iff (all p)

/-- A text with one bit turned. -/
def turn (l : List Int) (p : Nat) : List Int := l.set (p / 8) (((l.getD (p / 8) 0).toNat ^^^ 2 ^ (p % 8) : Nat) : Int)
theorem turn_length (l : List Int) (p : Nat) : (turn l p).length = l.length := by unfold turn; rw [List.length_set]
theorem pow_lt_byte (j : Nat) (h : j < 8) : 2 ^ j < 256 := by
  have : 2 ^ j < 2 ^ 8 := Nat.pow_lt_pow_right (by decide) h
  exact this
theorem turn_bys {l : List Int} (hl : Bys l) (p : Nat) : Bys (turn l p) := by
  intro x hx
  unfold turn at hx
  rcases List.mem_or_eq_of_mem_set hx with h | h
  · exact hl x h
  · have := Nat.xor_lt_two_pow (n := 8) (byte_lt hl (p / 8)) (pow_lt_byte (p % 8) (Nat.mod_lt _ (by decide)))
    subst h
    omega
theorem turn_bit (l : List Int) (p q : Nat) (h : q ≠ p) : bitAt (turn l p) q = bitAt l q := by
  unfold bitAt turn
  by_cases hb : q / 8 = p / 8
  · by_cases hk : p / 8 < l.length
    · rw [hb, List.getD, List.getElem?_set_self hk, Option.getD_some, Int.toNat_natCast]
      have hj : p % 8 ≠ q % 8 := by omega
      have : ∀ c : Nat, (c ^^^ 2 ^ (p % 8)) / 2 ^ (q % 8) % 2 = c / 2 ^ (q % 8) % 2 := fun c => by
        rw [← Nat.toNat_testBit, ← Nat.toNat_testBit, Nat.testBit_xor, Nat.testBit_two_pow_of_ne hj, Bool.xor_false]
      exact this _
    · rw [List.set_eq_of_length_le (by omega)]
  · rw [List.getD, List.getElem?_set_ne (Ne.symm hb), ← List.getD]
end Go.Proofs.YtcpapcopnmapmaaDoor
