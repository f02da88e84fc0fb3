/- 2^255 - 19 is a prime. -/
import Derived.Test.YtofoihebhdpjlaaDoorN1
namespace Go.Proofs.YtofoihebhdpjlaaDoor
theorem pock1_check {n q h a : Nat} (f : Nat) (hq : Pr q) (hc : (n - 1 == h * q && decide (n - 1 < 2 ^ f) && decide (h < 2 ^ f) && pw n f a (n - 1) == 1 && Nat.gcd (pw n f a h + (n - 1)) n == 1 && decide (2 ≤ n) && decide (n < (q + 1) * (q + 1))) = true) : Pr n := by
  simp only [Bool.and_eq_true, beq_iff_eq, decide_eq_true_eq] at hc
  obtain ⟨⟨⟨⟨⟨⟨h1, h2⟩, h3⟩, h4⟩, h5⟩, h6⟩, h7⟩ := hc
  refine pock1 (a := a) hq h1 ?_ ?_ h6 h7
  · rw [← pw_spec n f a (n - 1) h2, h4, Nat.mod_eq_of_lt (by omega)]
  · rw [← pw_spec n f a h h3]; exact h5
theorem pock2_check {n q q' h h' a : Nat} (f : Nat) (hq : Pr q) (hq' : Pr q') (hc : (Nat.gcd q q' == 1 && n - 1 == h * q && n - 1 == h' * q' && decide (n - 1 < 2 ^ f) && decide (h < 2 ^ f) && decide (h' < 2 ^ f) && pw n f a (n - 1) == 1 && Nat.gcd (pw n f a h + (n - 1)) n == 1 && Nat.gcd (pw n f a h' + (n - 1)) n == 1 && decide (2 ≤ n) && decide (n < (q * q' + 1) * (q * q' + 1))) = true) : Pr n := by
  simp only [Bool.and_eq_true, beq_iff_eq, decide_eq_true_eq] at hc
  obtain ⟨⟨⟨⟨⟨⟨⟨⟨⟨⟨h0, h1⟩, h1'⟩, h2⟩, h3⟩, h3'⟩, h4⟩, h5⟩, h5'⟩, h6⟩, h7⟩ := hc
  refine pock2 (a := a) hq hq' h0 h1 h1' ?_ ?_ ?_ h6 h7
  · rw [← pw_spec n f a (n - 1) h2, h4, Nat.mod_eq_of_lt (by omega)]
  · rw [← pw_spec n f a h h3]; exact h5
  · rw [← pw_spec n f a h' h3']; exact h5'
theorem pr127 : Pr 127 := prime_small 127 10 (by decide) (by decide +kernel) (by decide)
theorem pr353 : Pr 353 := prime_small 353 17 (by decide) (by decide +kernel) (by decide)
theorem pr75707 : Pr 75707 := prime_small 75707 274 (by decide) (by decide +kernel) (by decide)
theorem pr8574133 : Pr 8574133 := prime_small 8574133 2927 (by decide) (by decide +kernel) (by decide)
theorem pr51 : Pr 1919519569386763 := pock2_check (q := 8574133) (q' := 127) (h := 223873314) (h' := 15114327318006) (a := 2) 52 pr8574133 pr127 (by decide +kernel)
theorem pr116 : Pr 75445702479781427272750846543864801 := pock2_check (q := 1919519569386763) (q' := 75707) (h := 39304471641247389600) (h' := 996548568557483816196003626400) (a := 2) 117 pr51 pr75707 (by decide +kernel)
theorem pr236 : Pr 74058212732561358302231226437062788676166966415465897661863160754340907 := pock2_check (q := 75445702479781427272750846543864801) (q' := 353) (h := 981609426360740691344999861639072106) (h' := 209796636636151156663544550813209033076960244803019540118592523383402) (a := 2) 237 pr116 pr353 (by decide +kernel)
/-- The field's own number. -/
def pp : Nat := 57896044618658097711785492504343953926634992332820282019728792003956564819949
theorem pp_prime : Pr pp := pock1_check (q := 74058212732561358302231226437062788676166966415465897661863160754340907) (h := 781764) (a := 2) 256 pr236 (by decide +kernel)
end Go.Proofs.YtofoihebhdpjlaaDoor
