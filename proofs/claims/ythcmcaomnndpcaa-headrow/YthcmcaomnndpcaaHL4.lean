/- Texts as strings, and which of two heads is ahead. -/
import Derived.Test.YthcmcaomnndpcaaHL3
import Derived.Laws.IdiomStrings
namespace Go.Proofs.Ythcmcaomnndpcaa
open Go Go.RowKit
theorem and_max (x : Int) : ∃ n : Nat, bits .and .i64 x 9223372036854775807 = (n : Int) ∧ n < 9223372036854775808 := by
  have h127 : (BitVec.ofInt 64 9223372036854775807).toNat = 2 ^ 63 - 1 := by decide
  have key : (BitVec.ofInt 64 x &&& BitVec.ofInt 64 9223372036854775807).toNat = (x % ((2 ^ 64 : Nat) : Int)).toNat % 2 ^ 63 := by
    rw [BitVec.toNat_and, BitVec.toNat_ofInt, h127, Nat.and_two_pow_sub_one_eq_mod]
  refine ⟨(x % ((2 ^ 64 : Nat) : Int)).toNat % 2 ^ 63, ?_, by omega⟩
  show IntKind.i64.wrap ((BitVec.ofInt 64 x &&& BitVec.ofInt 64 9223372036854775807).toNat : Nat) = _
  rw [key, IntKind.wrap_i64]
  omega
/-- A text's bytes, as a string holds them. -/
def bytesOf (m : List Int) : List UInt8 := m.map fun x => UInt8.ofNat x.toNat
def strOf (m : List Int) : ByteArray := ⟨(bytesOf m).toArray⟩
theorem strOf_list (m : List Int) : (strOf m).toList = bytesOf m := by
  rw [ByteArray.toList_eq]
  rfl
theorem bytesOf_at {m : List Int} (bm : Bys m) (j : Nat) (hj : j < (bytesOf m).length) : ((bytesOf m)[j].toNat : Int) = m.getD j 0 := by
  have hj' : j < m.length := by simpa [bytesOf] using hj
  have h := bm _ (getD_mem hj')
  have e : m.getD j 0 = m[j] := by simp [List.getD, hj']
  simp only [bytesOf, List.getElem_map]
  rw [e] at h ⊢
  rw [UInt8.toNat_ofNat']
  omega
theorem conv_txt {w : World} {a : Addr} {c n : Nat} {m : List Int} (h : Txt w (some a) c m) (hn : n = m.length) : (convert 22 9 (.slice (some a) n c)).run Try.prog w = .ok (.string (strOf m)) w := by
  subst hn
  have hl : m.length = (bytesOf m).length := by simp [bytesOf]
  rw [hl]
  refine run_convert_bytes_back w 22 9 5 a c (bytesOf m) Try.underlying22 Try.underlying5 Try.underlying9 fun j hj => ?_
  obtain ⟨b, off, e, hc⟩ := h.1.at j (by rw [hl]; exact hj)
  simp only [Option.some.injEq] at e
  subst e
  rw [bytesOf_at h.1.2.2.2.1 j hj, Addr.add_mid]
  exact hc
/-- Which of two rows of bytes is ahead. -/
def ahead : List Int → List Int → Bool
  | _, [] => false
  | [], _ :: _ => true
  | a :: x, b :: y => decide (a < b) || (decide (a = b) && ahead x y)
theorem less_ahead : ∀ (x y : List Int), Bys x → Bys y → Op.bytesLess (bytesOf x) (bytesOf y) = ahead x y
  | x, [], _, _ => by cases x <;> rfl
  | [], _ :: _, _, _ => rfl
  | a :: x, b :: y, hx, hy => by
    have ha := hx a (.head _)
    have hb := hy b (.head _)
    have ih := less_ahead x y (fun z hz => hx z (.tail _ hz)) fun z hz => hy z (.tail _ hz)
    show (decide (UInt8.ofNat a.toNat < UInt8.ofNat b.toNat) || (UInt8.ofNat a.toNat == UInt8.ofNat b.toNat && Op.bytesLess (bytesOf x) (bytesOf y))) = _
    rw [ih, ahead]
    have e1 : decide (UInt8.ofNat a.toNat < UInt8.ofNat b.toNat) = decide (a < b) := by
      rw [decide_eq_decide, UInt8.lt_iff_toNat_lt, UInt8.toNat_ofNat', UInt8.toNat_ofNat']
      omega
    have e2 : (UInt8.ofNat a.toNat == UInt8.ofNat b.toNat) = decide (a = b) := by
      rw [Bool.eq_iff_iff, beq_iff_eq, decide_eq_true_iff, ← UInt8.toNat_inj, UInt8.toNat_ofNat', UInt8.toNat_ofNat']
      omega
    rw [e1, e2]
theorem ahead_be (n k : Nat) : ∀ s, ahead (be n s) (be k s) = decide (n % 256 ^ s < k % 256 ^ s)
  | 0 => by rw [be, be, ahead, Nat.pow_zero, Nat.mod_one, Nat.mod_one]; rfl
  | s + 1 => by
    rw [be, be, ahead, ahead_be n k s, Nat.pow_succ, Nat.mod_mul, Nat.mod_mul]
    have hn := Nat.mod_lt n (show 0 < 256 ^ s from Nat.pow_pos (by decide))
    have hk := Nat.mod_lt k (show 0 < 256 ^ s from Nat.pow_pos (by decide))
    generalize n / 256 ^ s % 256 = p
    generalize k / 256 ^ s % 256 = q
    generalize n % 256 ^ s = u at *
    generalize k % 256 ^ s = v at *
    generalize 256 ^ s = M at *
    rcases Nat.lt_trichotomy p q with h | h | h
    · have : M * (p + 1) ≤ M * q := Nat.mul_le_mul_left _ h
      rw [Nat.mul_add, Nat.mul_one] at this
      rw [decide_eq_true (by omega), decide_eq_true (show u + M * p < v + M * q by omega)]
      rfl
    · subst h
      rw [decide_eq_false (by omega), decide_eq_true rfl, Bool.false_or, Bool.true_and, decide_eq_decide]
      omega
    · have : M * (q + 1) ≤ M * p := Nat.mul_le_mul_left _ h
      rw [Nat.mul_add, Nat.mul_one] at this
      rw [decide_eq_false (by omega), decide_eq_false (show ¬ (p : Int) = (q : Int) by omega), decide_eq_false (show ¬ u + M * p < v + M * q by omega)]
      rfl
theorem low_class (n k : Nat) : (hlow n < hlow k → n < k) ∧ (hlow n = hlow k → hsize n = hsize k ∧ (n < 24 → n = k)) := by
  unfold hlow hsize
  refine ⟨fun h => ?_, fun h => ⟨?_, fun h1 => ?_⟩⟩
  · repeat' split at h
    all_goals omega
  · repeat' split
    all_goals (first | rfl | (simp_all <;> omega))
  · rw [if_pos h1] at h
    repeat' split at h
    all_goals omega
theorem ahead_hd {mj n k : Nat} (hn : n < 9223372036854775808) (hk : k < 9223372036854775808) : ahead (hd mj n) (hd mj k) = decide (n < k) := by
  obtain ⟨h1, h2⟩ := low_class n k
  obtain ⟨h3, h4⟩ := low_class k n
  rw [hd, hd, ahead]
  rcases Nat.lt_trichotomy (hlow n) (hlow k) with h | h | h
  · rw [decide_eq_true (by omega), decide_eq_true (h1 h)]
    rfl
  · obtain ⟨e, e2⟩ := h2 h
    rw [h, e, decide_eq_false (by omega), decide_eq_true rfl, Bool.false_or, Bool.true_and, ahead_be, decide_eq_decide]
    rcases hd_lt hn with h5 | h5
    · rw [e] at h5
      rcases hd_lt hk with h6 | h6
      · rw [Nat.mod_eq_of_lt h5, Nat.mod_eq_of_lt h6]
      · have := (h4 h.symm).2 h6
        subst this
        omega
    · have := e2 h5
      subst this
      omega
  · have := h3 h
    rw [decide_eq_false (by omega), decide_eq_false (show ¬ ((32 * mj + hlow n : Nat) : Int) = ((32 * mj + hlow k : Nat) : Int) by omega), decide_eq_false (show ¬ n < k by omega)]
    rfl
theorem hd_inj {mj n k : Nat} (hn : n < 9223372036854775808) (hk : k < 9223372036854775808) (h : hd mj n = hd mj k) : n = k := by
  have h1 := hget_hd (major := mj) hn []
  have h2 := hget_hd (major := mj) hk []
  rw [h, h2] at h1
  simp only [Option.some.injEq, Prod.mk.injEq] at h1
  exact h1.2.1.symm
theorem cut_none {mj n j : Nat} (hj : j < 1 + hsize n) : hgetR ((7 :: hd mj n).take (1 + j)) 1 = (0, 0, 0, 3) := by
  have e0 : (7 :: hd mj n).take (1 + j) = 7 :: (hd mj n).take j := by rw [Nat.add_comm, List.take_succ_cons]
  have el : (7 :: (hd mj n).take j).length = 1 + j := by rw [List.length_cons, List.length_take, hd_length, Nat.min_eq_left (by omega)]; omega
  rw [e0]
  rcases j with _ | j
  · rfl
  · have hle := hlow_le n
    have ec : (hd mj n).take (j + 1) = ((32 * mj + hlow n : Nat) : Int) :: (be n (hsize n)).take j := by rw [hd, List.take_succ_cons]
    rw [ec] at el ⊢
    refine hgetR_none (q := 1) (c := 32 * mj + hlow n) (by rw [el]; omega) (by simp [List.getD]) (.inr ?_)
    rw [el, show (32 * mj + hlow n) % 32 = hlow n by omega, lsize_hlow]
    omega
theorem back_got {mj n : Nat} (hn : n < 9223372036854775808) : hgetR (7 :: hd mj n) 1 = ((mj : Int), (n : Int), ((2 + hsize n : Nat) : Int), 0) := by
  unfold hgetR
  have hl := hd_length mj n
  rw [if_neg (by rw [List.length_cons]; omega)]
  have e : (7 :: hd mj n).drop (1 : Int).toNat = hd mj n ++ [] := by rw [List.append_nil]; rfl
  rw [e, hget_hd hn]
  simp only [Prod.mk.injEq, true_and, and_true]
  omega
end Go.Proofs.Ythcmcaomnndpcaa
