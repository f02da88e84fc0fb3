/- CBOR: an item by its first token. -/
import Derived.Test.YtaabcllghniaoaaDoorWD
namespace Go.Proofs.YtaabcllghniaoaaDoor
theorem item_of (d : Nat) : ∃ f, item d = itemF f ∧ (d = 0 ∧ f = none ∨ ∃ d', d = d' + 1 ∧ f = some (item d')) := by
  cases d with
  | zero => exact ⟨none, rfl, .inl ⟨rfl, rfl⟩⟩
  | succ d => exact ⟨some (item d), rfl, .inr ⟨d, rfl, rfl⟩⟩
theorem good_of {k n : Int} {b : List Int} (h : ¬ ((k = 3 ∨ k = 4) ∧ n ≠ 0) ∧ ¬ (¬ (k = 3 ∨ k = 4) ∧ 0 < b.length) ∧ 0 ≤ n ∧ n < 9223372036854775808 ∧ b.length < 9223372036854775808) : (⟨k, n, b⟩ : Tk).good = true := decide_eq_true h
theorem item_bad (d : Nat) {k n : Int} {b : List Int} (h : ((k = 3 ∨ k = 4) ∧ n ≠ 0) ∨ (¬ (k = 3 ∨ k = 4) ∧ 0 < b.length) ∨ n < 0) (r : List Tk) : item d (⟨k, n, b⟩ :: r) = none := by
  obtain ⟨f, hf, -⟩ := item_of d
  rw [hf, itemF_cons, if_pos (show (⟨k, n, b⟩ : Tk).good = false from decide_eq_false (fun hh => by
    have hh : ¬ ((k = 3 ∨ k = 4) ∧ n ≠ 0) ∧ ¬ (¬ (k = 3 ∨ k = 4) ∧ 0 < b.length) ∧ 0 ≤ n ∧ n < 9223372036854775808 ∧ b.length < 9223372036854775808 := hh
    omega))]
theorem item_good (d : Nat) {k n : Int} {b : List Int} (h : (⟨k, n, b⟩ : Tk).good = true) (r : List Tk) : ∃ f, item d = itemF f ∧ (d = 0 ∧ f = none ∨ ∃ d', d = d' + 1 ∧ f = some (item d')) ∧ itemF f (⟨k, n, b⟩ :: r) = (if k = 1 then some (hd 0 n.toNat, r) else if k = 2 then some (hd 1 n.toNat, r) else if k = 3 then some (hd 2 b.length ++ b, r) else if k = 4 then (if utf8 b then some (hd 3 b.length ++ b, r) else none) else if k = 5 ∨ k = 6 then (if 64 < n then none else itemL f ⟨k, n, b⟩ r) else none) := by
  obtain ⟨f, hf, hd⟩ := item_of d
  refine ⟨f, hf, hd, ?_⟩
  rw [itemF_cons, if_neg (by rw [h]; exact Bool.noConfusion)]
theorem item_num (d : Nat) {n : Nat} (hn : n < 9223372036854775808) (r : List Tk) : item d (⟨1, n, []⟩ :: r) = some (hd 0 n, r) := by
  obtain ⟨f, hf, -, h⟩ := item_good d (good_of (k := 1) (n := n) (b := []) ⟨by omega, by simp, by omega, by omega, by decide⟩) r
  rw [hf, h, if_pos rfl, Int.toNat_natCast]
theorem item_neg (d : Nat) {n : Nat} (hn : n < 9223372036854775808) (r : List Tk) : item d (⟨2, n, []⟩ :: r) = some (hd 1 n, r) := by
  obtain ⟨f, hf, -, h⟩ := item_good d (good_of (k := 2) (n := n) (b := []) ⟨by omega, by simp, by omega, by omega, by decide⟩) r
  rw [hf, h, if_neg (by decide), if_pos rfl, Int.toNat_natCast]
theorem item_bytes (d : Nat) {b : List Int} (hb : b.length < 9223372036854775808) (r : List Tk) : item d (⟨3, 0, b⟩ :: r) = some (hd 2 b.length ++ b, r) := by
  obtain ⟨f, hf, -, h⟩ := item_good d (good_of (k := 3) (n := 0) (b := b) ⟨by omega, by omega, by omega, by omega, hb⟩) r
  rw [hf, h, if_neg (by decide), if_neg (by decide), if_pos rfl]
theorem item_text (d : Nat) {b : List Int} (hb : b.length < 9223372036854775808) (r : List Tk) : item d (⟨4, 0, b⟩ :: r) = if utf8 b = true then some (hd 3 b.length ++ b, r) else none := by
  obtain ⟨f, hf, -, h⟩ := item_good d (good_of (k := 4) (n := 0) (b := b) ⟨by omega, by omega, by omega, by omega, hb⟩) r
  rw [hf, h, if_neg (by decide), if_neg (by decide), if_neg (by decide), if_pos rfl]
theorem item_notext (d : Nat) {n : Int} {b : List Int} (h : utf8 b = false) (r : List Tk) : item d (⟨4, n, b⟩ :: r) = none := by
  by_cases hg : (⟨4, n, b⟩ : Tk).good = true
  · obtain ⟨f, hf, -, e⟩ := item_good d hg r
    rw [hf, e, if_neg (by decide), if_neg (by decide), if_neg (by decide), if_pos rfl, if_neg (by rw [h]; decide)]
  · obtain ⟨f, hf, -⟩ := item_of d
    rw [hf, itemF_cons, if_pos (by cases hq : (⟨4, n, b⟩ : Tk).good <;> simp_all)]
theorem item_shut (d : Nat) {k n : Int} {b : List Int} (hk : k = 5 ∨ k = 6) (h : d = 0 ∨ 64 < n) (r : List Tk) : item d (⟨k, n, b⟩ :: r) = none := by
  by_cases hg : (⟨k, n, b⟩ : Tk).good = true
  · obtain ⟨f, hf, hd, e⟩ := item_good d hg r
    rw [hf, e, if_neg (by omega), if_neg (by omega), if_neg (by omega), if_neg (by omega), if_pos hk]
    by_cases h64 : 64 < n
    · rw [if_pos h64]
    · rw [if_neg h64]
      rcases hd with ⟨-, rfl⟩ | ⟨d', rfl, -⟩
      · rfl
      · omega
  · obtain ⟨f, hf, -⟩ := item_of d
    rw [hf, itemF_cons, if_pos (by cases hq : (⟨k, n, b⟩ : Tk).good <;> simp_all)]
theorem item_open (d : Nat) {k : Int} {n : Nat} (hk : k = 5 ∨ k = 6) (hn : n ≤ 64) (r : List Tk) : item (d + 1) (⟨k, n, []⟩ :: r) = (heldO (item d) n (decide (k = 6)) r).map fun p => (hd (if k = 5 then 4 else 5) n ++ p.1, p.2) := by
  obtain ⟨f, hf, hdd, e⟩ := item_good (d + 1) (good_of (k := k) (n := n) (b := []) ⟨by omega, by simp, by omega, by omega, by decide⟩) r
  rw [hf, e, if_neg (by omega), if_neg (by omega), if_neg (by omega), if_neg (by omega), if_pos hk, if_neg (by omega)]
  rcases hdd with ⟨h, -⟩ | ⟨d', h, rfl⟩
  · cases h
  · obtain rfl : d = d' := by omega
    have := itemL_held (item d) ⟨k, n, []⟩ hk r
    rw [this]
    simp only [Int.toNat_natCast]
theorem item_kind (d : Nat) {k n : Int} {b : List Int} (h1 : k ≠ 1) (h2 : k ≠ 2) (h3 : k ≠ 3) (h4 : k ≠ 4) (h5 : k ≠ 5) (h6 : k ≠ 6) (r : List Tk) : item d (⟨k, n, b⟩ :: r) = none := by
  by_cases hg : (⟨k, n, b⟩ : Tk).good = true
  · obtain ⟨f, hf, -, e⟩ := item_good d hg r
    rw [hf, e, if_neg h1, if_neg h2, if_neg h3, if_neg h4, if_neg (by omega)]
  · obtain ⟨f, hf, -⟩ := item_of d
    rw [hf, itemF_cons, if_pos (by cases hq : (⟨k, n, b⟩ : Tk).good <;> simp_all)]
end Go.Proofs.YtaabcllghniaoaaDoor
