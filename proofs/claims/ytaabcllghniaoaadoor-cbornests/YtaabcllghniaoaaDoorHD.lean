/- CBOR's heads: bytes of numbers, what is put, what is got. -/
import Derived.KernelRfl
namespace Go.Proofs.YtaabcllghniaoaaDoor
/-- The lowest k bytes of a number, the highest of them first. -/
def be (n : Nat) : Nat → List Int
  | 0 => []
  | k + 1 => ((n / 256 ^ k % 256 : Nat) : Int) :: be n k
theorem be_length (n : Nat) : ∀ k, (be n k).length = k
  | 0 => rfl
  | k + 1 => by rw [be, List.length_cons, be_length n k]
theorem be_at (n : Nat) : ∀ (k j : Nat), j < k → (be n k)[j]? = some ((n / 256 ^ (k - 1 - j) % 256 : Nat) : Int)
  | 0, _, h => absurd h (Nat.not_lt_zero _)
  | k + 1, 0, _ => by rw [be]; rfl
  | k + 1, j + 1, h => by
    rw [be, List.getElem?_cons_succ, be_at n k j (by omega), show k + 1 - 1 - (j + 1) = k - 1 - j by omega]
theorem be_bytes (n : Nat) : ∀ k, ∀ x ∈ be n k, (0 : Int) ≤ x ∧ x < 256
  | 0, x, h => by cases h
  | k + 1, x, h => by
    rw [be] at h
    rcases List.mem_cons.1 h with rfl | h
    · have := Nat.mod_lt (n / 256 ^ k) (show 0 < 256 by decide)
      omega
    · exact be_bytes n k x h
theorem be_take (n k j : Nat) (h : j < k) : (be n k).take (j + 1) = (be n k).take j ++ [((n / 256 ^ (k - 1 - j) % 256 : Nat) : Int)] := by
  have hl : j < (be n k).length := by rw [be_length]; exact h
  rw [List.take_succ_eq_append_getElem hl]
  have := be_at n k j h
  rw [List.getElem?_eq_getElem hl] at this
  rw [Option.some.inj this]
/-- The number that bytes tell, the highest first, behind a number that is there. -/
def val (s : Nat) : List Int → Nat
  | [] => s
  | x :: l => val (s * 256 + x.toNat) l
theorem val_snoc : ∀ (l : List Int) (s : Nat) (x : Int), val s (l ++ [x]) = val s l * 256 + x.toNat
  | [], s, x => rfl
  | y :: l, s, x => by rw [List.cons_append, val, val, val_snoc l]
theorem val_lt : ∀ (l : List Int) (s : Nat), (∀ x ∈ l, (0 : Int) ≤ x ∧ x < 256) → val s l < (s + 1) * 256 ^ l.length
  | [], s, _ => by simp [val]
  | x :: l, s, h => by
    have h1 := h x (.head _)
    have h2 := val_lt l (s * 256 + x.toNat) fun y hy => h y (.tail _ hy)
    rw [val, List.length_cons, Nat.pow_succ, Nat.mul_comm (256 ^ l.length), ← Nat.mul_assoc]
    refine Nat.lt_of_lt_of_le h2 (Nat.mul_le_mul_right _ ?_)
    omega
theorem val_be (n : Nat) : ∀ (k s : Nat), val s (be n k) = s * 256 ^ k + n % 256 ^ k
  | 0, s => by rw [be, val, Nat.pow_zero, Nat.mod_one]; omega
  | k + 1, s => by
    rw [be, val, val_be n k]
    have e : ((n / 256 ^ k % 256 : Nat) : Int).toNat = n / 256 ^ k % 256 := Int.toNat_natCast _
    rw [e, Nat.pow_succ, Nat.mul_comm (256 ^ k) 256, Nat.add_mul, Nat.mul_assoc, Nat.add_assoc]
    congr 1
    rw [Nat.mul_comm 256 (256 ^ k), Nat.mod_mul]
    rw [Nat.mul_comm]
    omega
theorem be_val : ∀ (l : List Int) (s : Nat), (∀ x ∈ l, (0 : Int) ≤ x ∧ x < 256) → be (val s l) l.length = l
  | [], _, _ => rfl
  | x :: l, s, h => by
    have h1 := h x (.head _)
    have hl := fun y hy => h y (.tail x hy)
    rw [List.length_cons, be, val, be_val l _ hl]
    congr 1
    have key : val (s * 256 + x.toNat) l / 256 ^ l.length = s * 256 + x.toNat := by
      have : ∀ (l : List Int) (q : Nat), (∀ x ∈ l, (0 : Int) ≤ x ∧ x < 256) → val q l / 256 ^ l.length = q := fun l => by
        induction l with
        | nil => intro q _; simp [val]
        | cons y r ih =>
          intro q hq
          have hy := hq y (.head _)
          rw [val, List.length_cons, Nat.pow_succ, ← Nat.div_div_eq_div_mul, ih _ fun z hz => hq z (.tail _ hz)]
          omega
      exact this l _ hl
    rw [key]
    omega
/-- A head: how many bytes stand behind the first one, and what the first one's low five bits are. -/
def hsize (n : Nat) : Nat := if n < 24 then 0 else if n < 256 then 1 else if n < 65536 then 2 else if n < 4294967296 then 4 else 8
def hlow (n : Nat) : Nat := if n < 24 then n else if n < 256 then 24 else if n < 65536 then 25 else if n < 4294967296 then 26 else 27
def hd (major n : Nat) : List Int := ((32 * major + hlow n : Nat) : Int) :: be n (hsize n)
theorem hsize_le (n : Nat) : hsize n ≤ 8 := by unfold hsize; split <;> (try split) <;> (try split) <;> (try split) <;> decide
theorem hlow_le (n : Nat) : hlow n ≤ 27 := by unfold hlow; split <;> (try split) <;> (try split) <;> (try split) <;> omega
theorem hd_length (major n : Nat) : (hd major n).length = 1 + hsize n := by rw [hd, List.length_cons, be_length]; omega
theorem hd_bytes {major n : Nat} (h : major ≤ 7) : ∀ x ∈ hd major n, (0 : Int) ≤ x ∧ x < 256 := fun x hx => by
  have := hlow_le n
  rw [hd] at hx
  rcases List.mem_cons.1 hx with rfl | hx
  · omega
  · exact be_bytes _ _ x hx
/-- How many bytes stand behind a first byte with these low five bits. -/
def lsize (low : Nat) : Nat := if low = 24 then 1 else if low = 25 then 2 else if low = 26 then 4 else if low = 27 then 8 else 0
theorem lsize_hlow (n : Nat) : lsize (hlow n) = hsize n := by
  unfold lsize hlow hsize
  by_cases h1 : n < 24
  · simp only [if_pos h1]
    rw [if_neg (by omega), if_neg (by omega), if_neg (by omega), if_neg (by omega)]
  · by_cases h2 : n < 256
    · simp [h1, h2]
    · by_cases h3 : n < 65536
      · simp [h1, h2, h3]
      · by_cases h4 : n < 4294967296
        · simp [h1, h2, h3, h4]
        · simp [h1, h2, h3, h4]
/-- The number of a head with these low five bits, and these bytes behind. -/
def hnum (low : Nat) (r : List Int) : Nat := if low < 24 then low else val 0 (r.take (lsize low))
/-- The head at a row's beginning: its major type, its number, how many bytes it has. -/
def hget : List Int → Option (Nat × Nat × Nat)
  | [] => none
  | c :: r =>
    if 27 < c.toNat % 32 ∨ r.length < lsize (c.toNat % 32) then none
    else if hnum (c.toNat % 32) r < 9223372036854775808 ∧ hd (c.toNat / 32) (hnum (c.toNat % 32) r) = c :: r.take (lsize (c.toNat % 32)) then some (c.toNat / 32, hnum (c.toNat % 32) r, 1 + lsize (c.toNat % 32)) else none
theorem hd_lt {n : Nat} (h : n < 9223372036854775808) : n < 256 ^ hsize n ∨ n < 24 := by
  unfold hsize
  by_cases h1 : n < 24
  · exact .inr h1
  · refine .inl ?_
    rw [if_neg h1]
    by_cases h2 : n < 256
    · rw [if_pos h2]; omega
    · rw [if_neg h2]
      by_cases h3 : n < 65536
      · rw [if_pos h3]; omega
      · rw [if_neg h3]
        by_cases h4 : n < 4294967296
        · rw [if_pos h4]; omega
        · rw [if_neg h4]; omega
/-- What is put is got, whatever stands behind. -/
theorem hget_hd {major n : Nat} (hn : n < 9223372036854775808) (l : List Int) : hget (hd major n ++ l) = some (major, n, 1 + hsize n) := by
  have hle := hlow_le n
  have e1 : ((32 * major + hlow n : Nat) : Int).toNat % 32 = hlow n := by rw [Int.toNat_natCast]; omega
  have e2 : ((32 * major + hlow n : Nat) : Int).toNat / 32 = major := by rw [Int.toNat_natCast]; omega
  rw [hd, List.cons_append, hget]
  rw [e1, e2, lsize_hlow]
  rw [if_neg (by rw [List.length_append, be_length]; omega)]
  have e3 : (be n (hsize n) ++ l).take (hsize n) = be n (hsize n) := List.take_left' (be_length _ _)
  have e4 : hnum (hlow n) (be n (hsize n) ++ l) = n := by
    unfold hnum
    rw [lsize_hlow, e3, val_be]
    by_cases h : n < 24
    · have : hlow n = n := by unfold hlow; rw [if_pos h]
      rw [if_pos (by omega), this]
    · have hl : ¬ hlow n < 24 := by unfold hlow; rw [if_neg h]; split <;> (try split) <;> (try split) <;> omega
      rw [if_neg hl]
      have := (hd_lt hn).resolve_right h
      rw [Nat.zero_mul, Nat.zero_add, Nat.mod_eq_of_lt this]
  rw [e4, e3, hd, if_pos ⟨hn, rfl⟩]
/-- What is got stands there. -/
theorem hget_some {l : List Int} {major n k : Nat} (h : hget l = some (major, n, k)) (hb : ∀ x ∈ l, (0 : Int) ≤ x ∧ x < 256) : n < 9223372036854775808 ∧ k = 1 + hsize n ∧ hd major n = l.take k ∧ k ≤ l.length ∧ major ≤ 7 := by
  cases l with
  | nil => cases h
  | cons c r =>
    have hc := hb c (.head _)
    rw [hget] at h
    by_cases h1 : 27 < c.toNat % 32 ∨ r.length < lsize (c.toNat % 32)
    · rw [if_pos h1] at h; cases h
    · rw [if_neg h1] at h
      by_cases h3 : hnum (c.toNat % 32) r < 9223372036854775808 ∧ hd (c.toNat / 32) (hnum (c.toNat % 32) r) = c :: r.take (lsize (c.toNat % 32))
      · rw [if_pos h3] at h
        simp only [Option.some.injEq, Prod.mk.injEq] at h
        obtain ⟨e1, e2, e3⟩ := h
        rw [e1, e2] at h3
        subst e3
        refine ⟨h3.1, ?_, ?_, ?_, ?_⟩
        · have := congrArg List.length h3.2
          rw [hd_length, List.length_cons, List.length_take] at this
          omega
        · rw [h3.2, Nat.add_comm, List.take_succ_cons]
        · rw [List.length_cons]; omega
        · omega
      · rw [if_neg h3] at h; cases h
/-- What stands at a place, or why not: the program's answer. -/
def hgetR (m : List Int) (a : Int) : Int × Int × Int × Int :=
  if a < 0 ∨ (m.length : Int) < a then (0, 0, 0, 1) else
  match hget (m.drop a.toNat) with
  | none => (0, 0, 0, 3)
  | some (major, n, k) => ((major : Int), (n : Int), a + (k : Int), 0)
theorem hgetR_in {m : List Int} {q c : Nat} (h : q < m.length) (hc : m.getD q 0 = (c : Int)) : hgetR m q = match hget ((c : Int) :: m.drop (q + 1)) with
    | none => (0, 0, 0, 3)
    | some (major, n, k) => ((major : Int), (n : Int), (q : Int) + (k : Int), 0) := by
  unfold hgetR
  rw [if_neg (by omega), Int.toNat_natCast, List.drop_eq_getElem_cons h]
  have e : m[q] = (c : Int) := by rw [← hc]; simp [List.getD, h]
  rw [e]
/-- No head: the first byte is of none, or there are too few bytes behind. -/
theorem hgetR_none {m : List Int} {q c : Nat} (h : q < m.length) (hc : m.getD q 0 = (c : Int)) (hn : 27 < c % 32 ∨ m.length - (q + 1) < lsize (c % 32)) : hgetR m q = (0, 0, 0, 3) := by
  rw [hgetR_in h hc, hget, Int.toNat_natCast, if_pos (by rw [List.length_drop]; exact hn)]
theorem hgetR_some {m : List Int} {q c n : Nat} (h : q < m.length) (hc : m.getD q 0 = (c : Int)) (h1 : c % 32 ≤ 27) (h2 : lsize (c % 32) ≤ m.length - (q + 1)) (hn : hnum (c % 32) (m.drop (q + 1)) = n) (hlt : n < 9223372036854775808) :
    hgetR m q = if hd (c / 32) n = (c : Int) :: (m.drop (q + 1)).take (lsize (c % 32)) then (((c / 32 : Nat) : Int), (n : Int), (q : Int) + ((1 + lsize (c % 32) : Nat) : Int), 0) else (0, 0, 0, 3) := by
  rw [hgetR_in h hc, hget, Int.toNat_natCast, if_neg (by rw [List.length_drop]; omega), hn]
  by_cases e : hd (c / 32) n = (c : Int) :: (m.drop (q + 1)).take (lsize (c % 32))
  · rw [if_pos ⟨hlt, e⟩, if_pos e]
  · rw [if_neg (fun h => e h.2), if_neg e]
theorem hgetR_big {m : List Int} {q c : Nat} (h : q < m.length) (hc : m.getD q 0 = (c : Int)) (hn : 9223372036854775808 ≤ hnum (c % 32) (m.drop (q + 1))) : hgetR m q = (0, 0, 0, 3) := by
  have e : hget ((c : Int) :: m.drop (q + 1)) = none := by
    rw [hget, Int.toNat_natCast]
    by_cases h1 : 27 < c % 32 ∨ (m.drop (q + 1)).length < lsize (c % 32)
    · rw [if_pos h1]
    · rw [if_neg h1, if_neg (fun h => by omega)]
  rw [hgetR_in h hc, e]
end Go.Proofs.YtaabcllghniaoaaDoor
