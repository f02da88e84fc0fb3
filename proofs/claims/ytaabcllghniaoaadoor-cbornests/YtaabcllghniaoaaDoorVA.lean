/- UTF-8 by its table of first bytes. -/
import Derived.Test.YtaabcllghniaoaaDoorCD
namespace Go.Proofs.YtaabcllghniaoaaDoor
/-- What the table says of a first byte: in its low bits how long the code point is, in its high bits which second bytes may be. -/
def ufst (c : Nat) : Nat := if c < 128 then 240 else if c < 194 then 241 else if c < 224 then 2 else if c = 224 then 19 else if c < 237 then 3 else if c = 237 then 35 else if c < 240 then 3 else if c = 240 then 52 else if c < 244 then 4 else if c = 244 then 68 else 241
def ulo (k : Nat) : Nat := if k = 0 then 128 else if k = 1 then 160 else if k = 2 then 128 else if k = 3 then 144 else if k = 4 then 128 else 0
def uhi (k : Nat) : Nat := if k = 0 then 191 else if k = 1 then 191 else if k = 2 then 159 else if k = 3 then 191 else if k = 4 then 143 else 0
theorem utf8_ascii {c : Int} (h : c < 128) (r : List Int) : utf8 (c :: r) = utf8 r := by
  rw [utf8_cons, show usize c = 0 by unfold usize; rw [if_pos h], if_pos rfl]
theorem utf8_skip : ∀ (k : Nat) (r : List Int), (∀ j, j < k → r.getD j 0 < 128) → k ≤ r.length → utf8 r = utf8 (r.drop k)
  | 0, r, _, _ => rfl
  | k + 1, [], _, hl => by cases hl
  | k + 1, x :: r, h, hl => by
    rw [utf8_ascii (show x < 128 from h 0 (by omega)), List.drop_succ_cons]
    exact utf8_skip k r (fun j hj => by have := h (j + 1) (by omega); rwa [List.getD_cons_succ] at this) (by simpa using hl)
theorem band_of {p q : Prop} [Decidable p] [Decidable q] (h : p ↔ q) (b : Bool) : (decide p && b) = (decide q && b) := by
  rw [decide_eq_decide.2 h]
/-- A byte that opens nothing. -/
theorem utf8_bad {c : Int} (h : 128 ≤ c ∧ c < 194 ∨ 245 ≤ c ∧ c < 256) (r : List Int) : utf8 (c :: r) = false := by
  rw [utf8_cons]
  by_cases h1 : c < 192
  · rw [show usize c = 9 by unfold usize; rw [if_neg (by omega), if_pos h1], if_neg (by decide), if_pos (.inl rfl)]
  by_cases h2 : c < 224
  · rw [show usize c = 1 by unfold usize; rw [if_neg (by omega), if_neg h1, if_pos h2], if_neg (by decide)]
    match r with
    | [] => rw [if_pos (.inr (by decide))]
    | x :: r =>
      rw [if_neg (by simp)]
      simp only [List.take_succ_cons, List.take_zero, List.drop_succ_cons, List.drop_zero, uval, List.foldl_cons, List.foldl_nil, ufirst, ulow, uright, if_true]
      rw [decide_eq_false (by omega), Bool.and_false, Bool.false_and]
  by_cases h3 : c < 248
  · rw [show usize c = 3 by unfold usize; rw [if_neg (by omega), if_neg h1, if_neg h2, if_neg (by omega), if_pos h3], if_neg (by decide)]
    match r with
    | [] => rw [if_pos (.inr (by decide))]
    | [x] => rw [if_pos (.inr (by simp))]
    | [x, y] => rw [if_pos (.inr (by simp))]
    | x :: y :: z :: r =>
      rw [if_neg (by simp)]
      simp only [List.take_succ_cons, List.take_zero, List.drop_succ_cons, List.drop_zero, uval, List.foldl_cons, List.foldl_nil, ufirst, ulow, uright, show ¬ (3 = 1) by decide, show ¬ (3 = 2) by decide, if_false]
      rw [decide_eq_false (by omega), Bool.and_false, Bool.false_and]
  · rw [show usize c = 9 by unfold usize; rw [if_neg (by omega), if_neg h1, if_neg h2, if_neg (by omega), if_neg h3], if_neg (by decide), if_pos (.inl rfl)]
theorem utf8_two {c : Int} (h : 194 ≤ c ∧ c < 224) (r : List Int) : utf8 (c :: r) = if r.length < 1 then false else decide (128 ≤ r.getD 0 0 ∧ r.getD 0 0 ≤ 191) && utf8 (r.drop 1) := by
  rw [utf8_cons, show usize c = 1 by unfold usize; rw [if_neg (by omega), if_neg (by omega), if_pos h.2], if_neg (by decide)]
  match r with
  | [] => rw [if_pos (.inr (by decide)), if_pos (by decide)]
  | x :: r =>
    rw [if_neg (by simp), if_neg (by simp)]
    simp only [List.take_succ_cons, List.take_zero, List.drop_succ_cons, List.drop_zero, uval, List.foldl_cons, List.foldl_nil, ufirst, ulow, uright, ucont, List.all_cons, List.all_nil, Bool.and_true, List.getD_cons_zero, if_true]
    rw [← Bool.decide_and]
    exact band_of (by omega) _
theorem utf8_three {c lo hi : Int} (h : c = 224 ∧ lo = 160 ∧ hi = 191 ∨ (225 ≤ c ∧ c < 237 ∨ c = 238 ∨ c = 239) ∧ lo = 128 ∧ hi = 191 ∨ c = 237 ∧ lo = 128 ∧ hi = 159) (r : List Int) :
    utf8 (c :: r) = if r.length < 2 then false else decide ((lo ≤ r.getD 0 0 ∧ r.getD 0 0 ≤ hi) ∧ 128 ≤ r.getD 1 0 ∧ r.getD 1 0 ≤ 191) && utf8 (r.drop 2) := by
  rw [utf8_cons, show usize c = 2 by unfold usize; rw [if_neg (by omega), if_neg (by omega), if_neg (by omega), if_pos (by omega)], if_neg (by decide)]
  match r with
  | [] => rw [if_pos (.inr (by decide)), if_pos (by decide)]
  | [x] => rw [if_pos (.inr (by simp)), if_pos (by simp)]
  | x :: y :: r =>
    rw [if_neg (by simp), if_neg (by simp)]
    simp only [List.take_succ_cons, List.take_zero, List.drop_succ_cons, List.drop_zero, uval, List.foldl_cons, List.foldl_nil, ufirst, ulow, uright, ucont, List.all_cons, List.all_nil, Bool.and_true, List.getD_cons_zero, List.getD_cons_succ, show ¬ (2 = 1) by decide, if_false, if_true]
    rw [← Bool.decide_and, ← Bool.decide_and]
    exact band_of (by omega) _
theorem utf8_four {c lo hi : Int} (h : c = 240 ∧ lo = 144 ∧ hi = 191 ∨ (241 ≤ c ∧ c < 244) ∧ lo = 128 ∧ hi = 191 ∨ c = 244 ∧ lo = 128 ∧ hi = 143) (r : List Int) :
    utf8 (c :: r) = if r.length < 3 then false else decide ((lo ≤ r.getD 0 0 ∧ r.getD 0 0 ≤ hi) ∧ (128 ≤ r.getD 1 0 ∧ r.getD 1 0 ≤ 191) ∧ 128 ≤ r.getD 2 0 ∧ r.getD 2 0 ≤ 191) && utf8 (r.drop 3) := by
  rw [utf8_cons, show usize c = 3 by unfold usize; rw [if_neg (by omega), if_neg (by omega), if_neg (by omega), if_neg (by omega), if_pos (by omega)], if_neg (by decide)]
  match r with
  | [] => rw [if_pos (.inr (by decide)), if_pos (by decide)]
  | [x] => rw [if_pos (.inr (by simp)), if_pos (by simp)]
  | [x, y] => rw [if_pos (.inr (by simp)), if_pos (by simp)]
  | x :: y :: z :: r =>
    rw [if_neg (by simp), if_neg (by simp)]
    simp only [List.take_succ_cons, List.take_zero, List.drop_succ_cons, List.drop_zero, uval, List.foldl_cons, List.foldl_nil, ufirst, ulow, uright, ucont, List.all_cons, List.all_nil, Bool.and_true, List.getD_cons_zero, List.getD_cons_succ, show ¬ (3 = 1) by decide, show ¬ (3 = 2) by decide, if_false]
    rw [← Bool.decide_and, ← Bool.decide_and, ← Bool.decide_and]
    exact band_of (by omega) _
/-- No byte of a word is of the upper half. -/
theorem word_low {x0 x1 x2 x3 x4 x5 x6 x7 : Nat} (h : (x0 ||| x1 <<< 8 ||| x2 <<< 16 ||| x3 <<< 24 ||| x4 <<< 32 ||| x5 <<< 40 ||| x6 <<< 48 ||| x7 <<< 56) &&& 9259542123273814144 = 0) (b0 : x0 < 256) (b1 : x1 < 256) (b2 : x2 < 256) (b3 : x3 < 256) (b4 : x4 < 256) (b5 : x5 < 256) (b6 : x6 < 256) (b7 : x7 < 256) :
    x0 < 128 ∧ x1 < 128 ∧ x2 < 128 ∧ x3 < 128 ∧ x4 < 128 ∧ x5 < 128 ∧ x6 < 128 ∧ x7 < 128 := by
  have key : ∀ {x s : Nat}, x < 256 → Nat.testBit 9259542123273814144 (s + 7) = true → (x <<< s) &&& 9259542123273814144 = 0 → x < 128 := fun {x s} hx hs h => by
    have h1 := congrArg (fun n => Nat.testBit n (s + 7)) h
    simp only [Nat.testBit_and, hs, Bool.and_true, Nat.zero_testBit, Nat.testBit_shiftLeft] at h1
    rw [show s + 7 - s = 7 by omega] at h1
    have h2 : Nat.testBit x 7 = false := by simpa using h1
    rw [Nat.testBit_eq_decide_div_mod_eq] at h2
    have h3 := of_decide_eq_false h2
    omega
  simp only [Nat.and_or_distrib_right, Nat.or_eq_zero_iff] at h
  obtain ⟨⟨⟨⟨⟨⟨⟨h0, h1⟩, h2⟩, h3⟩, h4⟩, h5⟩, h6⟩, h7⟩ := h
  exact ⟨key (s := 0) b0 (by decide) (by simpa using h0), key b1 (by decide) h1, key b2 (by decide) h2, key b3 (by decide) h3, key b4 (by decide) h4, key b5 (by decide) h5, key b6 (by decide) h6, key b7 (by decide) h7⟩
end Go.Proofs.YtaabcllghniaoaaDoor
