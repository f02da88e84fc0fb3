/- What is made of a code point, and whether it is UTF-8. -/
import Derived.Test.YtaabcllghniaoaaDoorVA
import Derived.Test.YtaabcllghniaoaaDoorBO
namespace Go.Proofs.YtaabcllghniaoaaDoor
open Go Go.RowKit
theorem rune_of (x : Int) : ∃ r : Nat, wrap64 ((IntKind.u64.wrap x).tmod 1114112) = (r : Int) ∧ r < 1114112 := by
  have h0' : 0 ≤ IntKind.u64.wrap x := wrap_u64_nonneg x
  rw [Int.tmod_eq_emod_of_nonneg h0']
  have h1 := Int.emod_nonneg (IntKind.u64.wrap x) (show (1114112 : Int) ≠ 0 by omega)
  have h2 := Int.emod_lt_of_pos (IntKind.u64.wrap x) (show 0 < (1114112 : Int) by omega)
  refine ⟨(IntKind.u64.wrap x % 1114112).toNat, ?_, by omega⟩
  rw [Int.toNat_of_nonneg h1]
  generalize IntKind.u64.wrap x % 1114112 = y at *
  unfold wrap64
  omega
/-- The bytes of a code point. -/
def runeB (c : Nat) : List Int :=
  if c < 128 then [(c : Int)]
  else if c < 2048 then [((192 + c / 64 : Nat) : Int), ((128 + c % 64 : Nat) : Int)]
  else if c < 65536 then [((224 + c / 4096 : Nat) : Int), ((128 + c / 64 % 64 : Nat) : Int), ((128 + c % 64 : Nat) : Int)]
  else [((240 + c / 262144 : Nat) : Int), ((128 + c / 4096 % 64 : Nat) : Int), ((128 + c / 64 % 64 : Nat) : Int), ((128 + c % 64 : Nat) : Int)]
theorem rune_bytes {c : Nat} (hs : c < 55296 ∨ 57344 ≤ c) (hc : c < 1114112) : (Utf8.encode (c : Int)).data.toList.map (fun b => (b.toNat : Int)) = runeB c := by
  have v : Utf8.valid (c : Int) = true := by simp [Utf8.valid]; omega
  have e : ∀ n : Nat, n < 256 → n % 2 ^ 8 = n := fun n h => Nat.mod_eq_of_lt h
  unfold runeB
  by_cases h1 : c < 128
  · simp only [Utf8.encode, v, if_true, Int.toNat_natCast, if_pos h1, List.map_cons, List.map_nil, UInt8.toNat_ofNat']
    rw [e c (by omega)]
  by_cases h2 : c < 2048
  · simp only [Utf8.encode, v, if_true, Int.toNat_natCast, if_neg h1, if_pos h2, List.map_cons, List.map_nil, UInt8.toNat_ofNat']
    rw [e (192 + c / 64) (by omega), e (128 + c % 64) (by omega)]
  by_cases h3 : c < 65536
  · simp only [Utf8.encode, v, if_true, Int.toNat_natCast, if_neg h1, if_neg h2, if_pos h3, List.map_cons, List.map_nil, UInt8.toNat_ofNat']
    rw [e (224 + c / 4096) (by omega), e (128 + c / 64 % 64) (by omega), e (128 + c % 64) (by omega)]
  · simp only [Utf8.encode, v, if_true, Int.toNat_natCast, if_neg h1, if_neg h2, if_neg h3, List.map_cons, List.map_nil, UInt8.toNat_ofNat']
    rw [e (240 + c / 262144) (by omega), e (128 + c / 4096 % 64) (by omega), e (128 + c / 64 % 64) (by omega), e (128 + c % 64) (by omega)]
theorem three_lead {c : Nat} (h1 : 2048 ≤ c) (h2 : c < 65536) (hs : c < 55296 ∨ 57344 ≤ c) : ∃ lo hi : Int, ((((224 + c / 4096 : Nat) : Int) = 224 ∧ lo = 160 ∧ hi = 191 ∨ (225 ≤ ((224 + c / 4096 : Nat) : Int) ∧ ((224 + c / 4096 : Nat) : Int) < 237 ∨ ((224 + c / 4096 : Nat) : Int) = 238 ∨ ((224 + c / 4096 : Nat) : Int) = 239) ∧ lo = 128 ∧ hi = 191 ∨ ((224 + c / 4096 : Nat) : Int) = 237 ∧ lo = 128 ∧ hi = 159)) ∧ lo ≤ ((128 + c / 64 % 64 : Nat) : Int) ∧ ((128 + c / 64 % 64 : Nat) : Int) ≤ hi := by
  by_cases h0 : c / 4096 = 0
  · exact ⟨160, 191, .inl (by omega), by omega, by omega⟩
  by_cases h13 : c / 4096 = 13
  · exact ⟨128, 159, .inr (.inr (by omega)), by omega, by omega⟩
  · exact ⟨128, 191, .inr (.inl (by omega)), by omega, by omega⟩
theorem four_lead {c : Nat} (h1 : 65536 ≤ c) (h2 : c < 1114112) : ∃ lo hi : Int, ((((240 + c / 262144 : Nat) : Int) = 240 ∧ lo = 144 ∧ hi = 191 ∨ (241 ≤ ((240 + c / 262144 : Nat) : Int) ∧ ((240 + c / 262144 : Nat) : Int) < 244) ∧ lo = 128 ∧ hi = 191 ∨ ((240 + c / 262144 : Nat) : Int) = 244 ∧ lo = 128 ∧ hi = 143)) ∧ lo ≤ ((128 + c / 4096 % 64 : Nat) : Int) ∧ ((128 + c / 4096 % 64 : Nat) : Int) ≤ hi := by
  by_cases h0 : c / 262144 = 0
  · exact ⟨144, 191, .inl (by omega), by omega, by omega⟩
  by_cases h4 : c / 262144 = 4
  · exact ⟨128, 143, .inr (.inr (by omega)), by omega, by omega⟩
  · exact ⟨128, 191, .inr (.inl (by omega)), by omega, by omega⟩
theorem rune_app {c : Nat} (hs : c < 55296 ∨ 57344 ≤ c) (hc : c < 1114112) (r : List Int) : utf8 (runeB c ++ r) = utf8 r := by
  unfold runeB
  by_cases h1 : c < 128
  · rw [if_pos h1]
    exact utf8_ascii (by omega) r
  by_cases h2 : c < 2048
  · rw [if_neg h1, if_pos h2]
    show utf8 (_ :: (_ :: r)) = _
    rw [utf8_two (by omega), if_neg (by simp), List.getD_cons_zero, List.drop_succ_cons, List.drop_zero, decide_eq_true (by omega), Bool.true_and]
  by_cases h3 : c < 65536
  · rw [if_neg h1, if_neg h2, if_pos h3]
    obtain ⟨lo, hi, hl, h4, h5⟩ := three_lead (by omega) h3 hs
    show utf8 (_ :: (_ :: _ :: r)) = _
    rw [utf8_three hl, if_neg (by simp), List.getD_cons_zero, List.getD_cons_succ, List.getD_cons_zero, List.drop_succ_cons, List.drop_succ_cons, List.drop_zero, decide_eq_true ⟨⟨h4, h5⟩, by omega, by omega⟩, Bool.true_and]
  · rw [if_neg h1, if_neg h2, if_neg h3]
    obtain ⟨lo, hi, hl, h4, h5⟩ := four_lead (by omega) hc
    show utf8 (_ :: (_ :: _ :: _ :: r)) = _
    rw [utf8_four hl, if_neg (by simp), List.getD_cons_zero, List.getD_cons_succ, List.getD_cons_zero, List.getD_cons_succ, List.getD_cons_succ, List.getD_cons_zero, List.drop_succ_cons, List.drop_succ_cons, List.drop_succ_cons, List.drop_zero, decide_eq_true ⟨⟨h4, h5⟩, ⟨by omega, by omega⟩, by omega, by omega⟩, Bool.true_and]
theorem rune_ok {c : Nat} (hs : c < 55296 ∨ 57344 ≤ c) (hc : c < 1114112) : utf8 (runeB c) = true := by
  have := rune_app hs hc []
  rw [List.append_nil, utf8_nil] at this
  exact this
theorem rune_cut {c : Nat} (hs : c < 55296 ∨ 57344 ≤ c) (hc : c < 1114112) {k : Nat} (h0 : 1 ≤ k) (hk : k < (runeB c).length) : utf8 ((runeB c).take k) = false := by
  unfold runeB at hk ⊢
  by_cases h1 : c < 128
  · rw [if_pos h1] at hk
    simp only [List.length_cons, List.length_nil] at hk
    omega
  by_cases h2 : c < 2048
  · rw [if_neg h1, if_pos h2] at hk ⊢
    simp only [List.length_cons, List.length_nil] at hk
    obtain rfl : k = 1 := by omega
    show utf8 (_ :: []) = _
    rw [utf8_two (by omega), if_pos (by decide)]
  by_cases h3 : c < 65536
  · rw [if_neg h1, if_neg h2, if_pos h3] at hk ⊢
    simp only [List.length_cons, List.length_nil] at hk
    obtain ⟨lo, hi, hl, -⟩ := three_lead (by omega) h3 hs
    have : k = 1 ∨ k = 2 := by omega
    rcases this with rfl | rfl
    · show utf8 (_ :: []) = _
      rw [utf8_three hl, if_pos (by decide)]
    · show utf8 (_ :: [_]) = _
      rw [utf8_three hl, if_pos (by simp)]
  · rw [if_neg h1, if_neg h2, if_neg h3] at hk ⊢
    simp only [List.length_cons, List.length_nil] at hk
    obtain ⟨lo, hi, hl, -⟩ := four_lead (by omega) hc
    have : k = 1 ∨ k = 2 ∨ k = 3 := by omega
    rcases this with rfl | rfl | rfl
    · show utf8 (_ :: []) = _
      rw [utf8_four hl, if_pos (by decide)]
    · show utf8 (_ :: [_]) = _
      rw [utf8_four hl, if_pos (by simp)]
    · show utf8 (_ :: [_, _]) = _
      rw [utf8_four hl, if_pos (by simp)]
theorem rune_tail {c : Nat} (h : 1 < (runeB c).length) : utf8 ((runeB c).drop 1) = false := by
  unfold runeB at h ⊢
  by_cases h1 : c < 128
  · rw [if_pos h1] at h
    simp at h
  by_cases h2 : c < 2048
  · rw [if_neg h1, if_pos h2]
    exact utf8_bad (.inl (by omega)) _
  by_cases h3 : c < 65536
  · rw [if_neg h1, if_neg h2, if_pos h3]
    exact utf8_bad (.inl (by omega)) _
  · rw [if_neg h1, if_neg h2, if_neg h3]
    exact utf8_bad (.inl (by omega)) _
theorem rune_len (c : Nat) : 1 ≤ (runeB c).length ∧ (runeB c).length ≤ 4 := by
  unfold runeB
  repeat' split
  all_goals simp
theorem rune_bys {c : Nat} (hc : c < 1114112) : Bys (runeB c) := by
  unfold runeB
  intro x hx
  repeat' split at hx
  all_goals simp at hx; omega
theorem sur_bad {c : Nat} (h0 : 55296 ≤ c) (h1 : c ≤ 57343) : utf8 [((224 + c / 4096 : Nat) : Int), ((128 + c / 64 % 64 : Nat) : Int), ((128 + c % 64 : Nat) : Int)] = false := by
  rw [utf8_three (lo := 128) (hi := 159) (.inr (.inr (by omega))), if_neg (by simp), List.getD_cons_zero, decide_eq_false (by omega), Bool.false_and]
theorem rune_ff {c : Nat} (hs : c < 55296 ∨ 57344 ≤ c) (hc : c < 1114112) : utf8 (runeB c ++ [255]) = false := by
  rw [rune_app hs hc]
  exact utf8_bad (.inr (by decide)) _
theorem and_63 (n : Nat) : bits .and .i64 (n : Int) 63 = ((n % 64 : Nat) : Int) := by
  have h63 : (BitVec.ofInt 64 63).toNat = 2 ^ 6 - 1 := by decide
  have key : (BitVec.ofInt 64 (n : Int) &&& BitVec.ofInt 64 63).toNat = n % 64 := by
    rw [BitVec.toNat_and, BitVec.toNat_ofInt, h63, Nat.and_two_pow_sub_one_eq_mod]
    omega
  show IntKind.i64.wrap ((BitVec.ofInt 64 (n : Int) &&& BitVec.ofInt 64 63).toNat : Nat) = _
  rw [key, IntKind.wrap_i64]
  omega
theorem or_128 {y : Nat} (h : y < 64) : bits .or .u8 128 ((y : Int) % 256) = ((128 + y : Nat) : Int) := by
  have key : ∀ y : Fin 64, bits .or .u8 128 ((y.val : Int) % 256) = ((128 + y.val : Nat) : Int) := by decide +kernel
  exact key ⟨y, h⟩
/-- The row that '[]byte(s)' lays. -/
theorem rune_txt (w : World) (s : ByteArray) {m : List Int} (hs : s.data.toList.map (fun b => (b.toNat : Int)) = m) (hb : Bys m) {C : Nat} (h1 : m.length ≤ C) (h2 : C ≤ maxLen) (fr : Nat × Nat) : Below w.heap.size w (w.alloc (.cells (bytesRow s C) 5 fr)).drew ∧ Txt (w.alloc (.cells (bytesRow s C) 5 fr)).drew (some ⟨w.heap.size, 0, none⟩) C m := by
  have hrow : RowAt (w.alloc (.cells (bytesRow s C) 5 fr)).drew w.heap.size (bytesRow s C) 5 := ⟨_, heap_alloc_last w _⟩
  have hB := alloc_below w (.cells (bytesRow s C) 5 fr)
  refine ⟨⟨hB.os, hB.tape, hB.output, hB.size, hB.block⟩, ⟨rfl, h1, h2, hb, fun _ => ⟨_, 0, rfl, fun j v hj => ?_⟩⟩, fun e => by cases e⟩
  rw [Nat.zero_add]
  refine hrow.cell ?_
  have hj' := (List.getElem?_eq_some_iff.1 hj).1
  rw [← Array.getElem?_toList, bytesRow, Array.toList_append, List.getElem?_append_left, Array.toList_map]
  · rw [← hj, ← hs, u8s, List.map_map]
    rfl
  · rw [← hs] at hj'
    simpa [u8s] using hj'
end Go.Proofs.YtaabcllghniaoaaDoor
