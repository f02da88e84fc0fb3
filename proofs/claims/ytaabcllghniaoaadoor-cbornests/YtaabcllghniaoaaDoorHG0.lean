/- What Get answers; the program's heads by contract. -/
import Derived.Test.YtaabcllghniaoaaDoorHBL
import Derived.Test.YtaabcllghniaoaaDoorBA
namespace Go.Proofs.YtaabcllghniaoaaDoor
open Go Go.RowKit
/-- The four values that Get answers. -/
def got (r : Int × Int × Int × Int) : Value := .tuple #[.int .i64 r.1, .int .i64 r.2.1, .int .i64 r.2.2.1, .int .i64 r.2.2.2]
theorem hgetR_cases (m : List Int) (bm : Bys m) (x : Int) : ((x < 0 ∨ (m.length : Int) < x) ∧ hgetR m x = (0, 0, 0, 1)) ∨ ((0 ≤ x ∧ x ≤ (m.length : Int)) ∧ hgetR m x = (0, 0, 0, 3)) ∨
    ∃ q mj n : Nat, x = (q : Int) ∧ q < m.length ∧ mj ≤ 7 ∧ n < 9223372036854775808 ∧ q + (1 + hsize n) ≤ m.length ∧ hd mj n = (m.drop q).take (1 + hsize n) ∧ m.getD q 0 / 32 = (mj : Int) ∧ hgetR m x = ((mj : Int), (n : Int), (q : Int) + ((1 + hsize n : Nat) : Int), 0) := by
  by_cases h : x < 0 ∨ (m.length : Int) < x
  · exact .inl ⟨h, by unfold hgetR; rw [if_pos h]⟩
  · obtain ⟨q, rfl⟩ := Int.eq_ofNat_of_zero_le (show 0 ≤ x by omega)
    have e0 : hgetR m (q : Int) = match hget (m.drop q) with
      | none => (0, 0, 0, 3)
      | some (major, n, k) => ((major : Int), (n : Int), (q : Int) + (k : Int), 0) := by unfold hgetR; rw [if_neg h, Int.toNat_natCast]; cases hget (m.drop q) <;> rfl
    cases hg : hget (m.drop q) with
    | none => exact .inr (.inl ⟨by omega, by rw [e0, hg]⟩)
    | some y =>
      obtain ⟨mj, n, k⟩ := y
      obtain ⟨h1, h2, h3, h4, h5⟩ := hget_some hg fun z hz => bm z (List.mem_of_mem_drop hz)
      rw [List.length_drop] at h4
      have hq : q < m.length := by omega
      subst h2
      refine .inr (.inr ⟨q, mj, n, rfl, hq, h5, h1, by omega, h3, ?_, by rw [e0, hg]⟩)
      rw [List.drop_eq_getElem_cons hq, Nat.add_comm, List.take_succ_cons, hd] at h3
      have h6 := (List.cons.inj h3).1
      have h7 : m.getD q 0 = m[q] := by simp [List.getD, hq]
      have h8 := hlow_le n
      rw [h7, ← h6]
      omega
/-- The program's functions, by what they answer; T: what they want of memory. -/
structure Hed (T : World → Prop) : Prop where
  keep : ∀ w w', T w → Below w.heap.size w w' → T w'
  put : ∀ (mj n : Nat), mj ≤ 7 → n < 9223372036854775808 → ∀ (a : Option Addr) (c : Nat) (m : List Int), m.length ≤ 100000 → ∀ w, T w → Txt w a c m → Calls Tryd.prog 37 #[.slice a m.length c, .int .i64 mj, .int .i64 n] w fun e w' => ∃ v, e = .returned (.tuple #[v, .int .i64 0]) ∧ OwnBytes w' w.heap.size v (m ++ hd mj n) ∧ Below w.heap.size w w'
  put_no : ∀ (mj n : Int), ¬ (0 ≤ mj ∧ mj ≤ 7 ∧ 0 ≤ n) → ∀ (a : Option Addr) (c : Nat) (m : List Int), m.length ≤ 100000 → ∀ w, T w → Txt w a c m → Calls Tryd.prog 37 #[.slice a m.length c, .int .i64 mj, .int .i64 n] w fun e w' => ∃ a' c', e = .returned (.tuple #[.slice a' 0 c', .int .i64 1]) ∧ Below w.heap.size w w'
  get : ∀ (x : Int), -9223372036854775808 ≤ x → x < 9223372036854775808 → ∀ (a : Option Addr) (c : Nat) (m : List Int), m.length ≤ 100000 → ∀ w, T w → Txt w a c m → Calls Tryd.prog 32 #[.slice a m.length c, .int .i64 x] w fun e w' => e = .returned (got (hgetR m x)) ∧ Below w.heap.size w w'
end Go.Proofs.YtaabcllghniaoaaDoor
